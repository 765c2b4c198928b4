package lex

import (
	"strconv"
	"strings"

	"frankpledge/api"
)

// places are the digits that a decimal may have behind its point: those of
// Scale.
const places = 4

// token has a text of its own: one that is cut out of a statement would hold the
// whole statement in memory.
func token(kind Kind, text string, v api.Value) Token {
	return Token{Kind: kind, Text: strings.Clone(text), Value: v}
}

func takeWord(s string) (Token, bool) {
	word := s[:run(s, inWord)]
	return token(Word, strings.ToLower(word), api.Value{}), true
}

// takeNumber reads the digits on both sides of a point as one number, as if all
// places were written.
func takeNumber(s string) (Token, bool) {
	end := run(s, isDigit)
	digits, kind := s[:end], api.Int
	if begins(s[end:], '.') {
		fraction := run(s[end+1:], isDigit)
		if fraction == 0 || fraction > places {
			return Token{}, false
		}
		digits += s[end+1:end+1+fraction] + strings.Repeat("0", places-fraction)
		kind = api.Dec
		end += 1 + fraction
	}
	if begins(s[end:], '.') || run(s[end:], inWord) > 0 {
		return Token{}, false
	}
	n, err := strconv.ParseInt(digits, 10, 64)
	if err != nil {
		return Token{}, false
	}
	return token(Number, s[:end], api.Value{Kind: kind, N: n}), true
}

// takeText ends at the first apostrophe that no other one follows: two of them
// are one of the text.
func takeText(s string) (Token, bool) {
	var body strings.Builder
	for i := 1; i < len(s); i++ {
		if s[i] == quote {
			i++
			if !begins(s[i:], quote) {
				v := api.Value{Kind: api.Text, S: body.String()}
				return token(Text, s[:i], v), body.Len() <= api.MaxText
			}
		}
		body.WriteByte(s[i])
	}
	return Token{}, false
}

// takeBytes reads two digits a byte; the first two bytes of the text are the x
// and the apostrophe.
func takeBytes(s string) (Token, bool) {
	size := strings.IndexByte(s[2:], quote)
	if size < 0 || size%2 != 0 || size > 2*api.MaxText {
		return Token{}, false
	}
	var body strings.Builder
	for i := 2; i < 2+size; i += 2 {
		b, err := strconv.ParseUint(s[i:i+2], 16, 8)
		if err != nil {
			return Token{}, false
		}
		body.WriteByte(byte(b))
	}
	v := api.Value{Kind: api.Bytes, S: body.String()}
	return token(Bytes, s[:2+size+1], v), true
}

// takeSign prefers the longer one of two signs. What is alone is a sign in all
// cases, so that each of them only asks for what may follow.
func takeSign(s string) (Token, bool) {
	n := 1
	switch s[0] {
	case '<':
		if begins(s[1:], '>') {
			n = 2
		}
		fallthrough
	case '>':
		if begins(s[1:], '=') {
			n = 2
		}
		fallthrough
	case '(', ')', ',', '*', '+', '-', '/', '=', '.', ';':
		return token(Sign, s[:n], api.Value{}), true
	}
	return Token{}, false
}
