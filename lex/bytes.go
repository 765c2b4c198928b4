package lex

const quote = '\''

func isBlank(b byte) bool { return b == ' ' || b == '\t' || b == '\n' || b == '\r' }
func isDigit(b byte) bool { return '0' <= b && b <= '9' }

// isLetter looks at the letters of both cases at once: they differ in one bit.
func isLetter(b byte) bool { return 'a' <= b|' ' && b|' ' <= 'z' }

func inWord(b byte) bool { return isLetter(b) || isDigit(b) || b == '_' }

// run is how many bytes of a kind a text begins with.
func run(s string, kind func(byte) bool) int {
	n := 0
	for n < len(s) && kind(s[n]) {
		n++
	}
	return n
}

// begins is false for a text that has no bytes.
func begins(s string, b byte) bool {
	return s != "" && s[0] == b
}
