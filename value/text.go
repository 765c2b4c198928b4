package value

import (
	"strconv"
	"strings"

	"frankpledge/api"
)

const (
	quote  = "'"
	hex    = "0123456789abcdef"
	places = 4 // digits after the point of a decimal: those of Scale
)

// magnitude has no sign, as the least number has no positive one of its kind.
func magnitude(n int64) uint64 {
	if n < 0 {
		return -uint64(n)
	}
	return uint64(n)
}

// sign stands apart from the digits: a decimal between -1 and 0 has it ahead
// of a 0.
func sign(n int64) string {
	if n < 0 {
		return "-"
	}
	return ""
}

// fraction is a number below Scale, with the zeros that lead it.
func fraction(n uint64) string {
	s := strconv.FormatUint(n, 10)
	return strings.Repeat("0", places-len(s)) + s
}

// digits are two hexadecimal digits a byte.
func digits(s string) string {
	b := make([]byte, 0, 2*len(s))
	for _, c := range []byte(s) {
		b = append(b, hex[c>>4], hex[c&15])
	}
	return string(b)
}

// guess is the only value that may have a text, if any may. It shares no memory
// with the text.
func guess(s string) (api.Value, bool) {
	switch s {
	case "null":
		return api.Value{}, true
	case "false", "true":
		return truth(s == "true"), true
	}
	if body, ok := between(s, quote); ok {
		body = strings.ReplaceAll(body, quote+quote, quote)
		return api.Value{Kind: api.Text, S: strings.Clone(body)}, true
	}
	if body, ok := between(s, "x"+quote); ok {
		body, ok = undigits(body)
		return api.Value{Kind: api.Bytes, S: body}, ok
	}
	return number(s)
}

// between is what stands between an opening and a last apostrophe.
func between(s, open string) (string, bool) {
	if body, ok := strings.CutPrefix(s, open); ok {
		return strings.CutSuffix(body, quote)
	}
	return "", false
}

// undigits are the bytes of hexadecimal digits; a digit that is left over at
// the end is passed over.
func undigits(s string) (string, bool) {
	b := make([]byte, 0, len(s)/2)
	for ; len(s) >= 2; s = s[2:] {
		c, err := strconv.ParseUint(s[:2], 16, 8)
		if err != nil {
			return "", false
		}
		b = append(b, byte(c))
	}
	return string(b), true
}

// number is an Int, or a Dec if there is a point, wherever it stands.
func number(s string) (api.Value, bool) {
	whole, tail, pointed := strings.Cut(s, ".")
	kind := api.Int
	if pointed {
		kind = api.Dec
	}
	n, err := strconv.ParseInt(whole+tail, 10, 64)
	return api.Value{Kind: kind, N: n}, err == nil
}
