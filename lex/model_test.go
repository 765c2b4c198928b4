package lex_test

import (
	"encoding/hex"
	"math/big"
	"math/rand/v2"
	"regexp"
	"slices"
	"strings"
	"testing"

	"frankpledge/api"
	"frankpledge/lex"
)

// The forms are what the document says of tokens: a token's form, what may not
// follow it, and its kind. That of bytes comes ahead of that of words.
var forms = []struct {
	kind  lex.Kind
	form  *regexp.Regexp
	never string
}{
	{lex.Bytes, regexp.MustCompile(`^[xX]'([0-9a-fA-F]{2})*'`), ``},
	{lex.Word, regexp.MustCompile(`^[a-zA-Z][a-zA-Z0-9_]*`), ``},
	{lex.Number, regexp.MustCompile(`^[0-9]+(\.[0-9]{1,4})?`), `^[a-zA-Z0-9_.]`},
	{lex.Text, regexp.MustCompile(`(?s)^'(?:[^']|'')*'`), `^'`},
	{lex.Sign, regexp.MustCompile(`^(<=|>=|<>|[(),*+\-/=<>.;])`), ``},
}

var (
	white  = regexp.MustCompile(`^[ \t\n\r]*`)
	figure = regexp.MustCompile(`^[xX]'`)
)

// latin has a rune for each byte, so that the forms match bytes, not runes.
func latin(s string) string {
	r := make([]rune, len(s))
	for i := range len(s) {
		r[i] = rune(s[i])
	}
	return string(r)
}

func unlatin(s string) string {
	var b []byte
	for _, c := range s {
		b = append(b, byte(c))
	}
	return string(b)
}

// value is what a token stands for; false if there is no such value.
func value(k lex.Kind, s string) (api.Value, bool) {
	switch k {
	case lex.Number:
		return quantity(s)
	case lex.Text:
		body := strings.Join(strings.Split(s[1:len(s)-1], "''"), "'")
		return text(body), len(body) <= 200
	case lex.Bytes:
		body, err := hex.DecodeString(s[2 : len(s)-1])
		return bytes(string(body)), err == nil && len(body) <= 200
	}
	return api.Value{}, true
}

// quantity reckons with fractions of any size.
func quantity(s string) (api.Value, bool) {
	r, ok := new(big.Rat).SetString(s)
	kind := api.Int
	if strings.Contains(s, ".") {
		kind = api.Dec
		r.Mul(r, big.NewRat(10000, 1))
	}
	if !ok || !r.IsInt() || !r.Num().IsInt64() {
		return api.Value{}, false
	}
	return api.Value{Kind: kind, N: r.Num().Int64()}, true
}

// model splits a text by the forms; the number is the place of the first fault,
// -1 if there is none.
func model(s string) ([]lex.Token, int) {
	if len(s) > 1000 {
		return nil, 0
	}
	var l []lex.Token
	rest := latin(s)
	at := 0
	for {
		blank := white.FindString(rest)
		rest, at = rest[len(blank):], at+len(blank)
		if rest == "" {
			return append(l, end(len(s))), -1
		}
		k, ok := modelToken(rest)
		if !ok {
			return nil, at
		}
		k.At = at
		l = append(l, k)
		rest = latin(s[at+len(k.Text):])
		at += len(k.Text)
	}
}

func modelToken(rest string) (lex.Token, bool) {
	for _, f := range forms {
		if f.kind == lex.Word && figure.MatchString(rest) {
			return lex.Token{}, false
		}
		s := f.form.FindString(rest)
		if s == "" {
			continue
		}
		if f.never != "" && regexp.MustCompile(f.never).MatchString(rest[len(s):]) {
			return lex.Token{}, false
		}
		s = unlatin(s)
		v, ok := value(f.kind, s)
		if f.kind == lex.Word {
			s = strings.ToLower(s)
		}
		return lex.Token{Kind: f.kind, Text: s, Value: v}, ok
	}
	return lex.Token{}, false
}

// check holds Lex against the model, and what it answers against P16.2 and
// P16.3; it reports whether there are tokens.
func check(t *testing.T, s string) bool {
	t.Helper()
	want, at := model(s)
	if at >= 0 {
		refused(t, s, at)
		return false
	}
	got, e := lex.Lex(s)
	if e != nil || !slices.Equal(got, want) {
		t.Errorf("Lex(%q) = %v, %v, not %v", s, got, e, want)
		return false
	}
	follow(t, s, got)
	again(t, got)
	return true
}

// P16.2: follow puts a text together from white space and its tokens.
func follow(t *testing.T, s string, l []lex.Token) {
	t.Helper()
	at := 0
	for i, k := range l {
		if k.At < at || strings.Trim(s[at:k.At], " \t\n\r") != "" {
			t.Errorf("%q: token %d begins at %d, behind %d", s, i, k.At, at)
			return
		}
		at = k.At + len(k.Text)
		if at > len(s) || s[k.At:at] != k.Text && (k.Kind != lex.Word || !strings.EqualFold(s[k.At:at], k.Text)) {
			t.Errorf("%q: %q isn't at %d", s, k.Text, k.At)
			return
		}
		if (k.Kind == lex.End) != (i == len(l)-1) {
			t.Errorf("%q: token %d of %d has the kind %d", s, i, len(l), k.Kind)
		}
	}
	if at != len(s) {
		t.Errorf("%q: the tokens end at %d", s, at)
	}
}

// P16.3: again splits the tokens' texts, with spaces between them.
func again(t *testing.T, l []lex.Token) {
	t.Helper()
	var parts []string
	want, at := slices.Clone(l), 0
	for i, k := range l {
		parts = append(parts, k.Text)
		want[i].At = at
		at += len(k.Text) + 1
	}
	if s := strings.Join(parts, " "); len(s) <= api.MaxSQL {
		split(t, s, want...)
	} else {
		refused(t, s, 0)
	}
}

// P16.1 to P16.3: all short texts of the bytes that count.
func TestAllShortTexts(t *testing.T) {
	read := 0
	for _, x := range []struct {
		alphabet string
		size     int
	}{{"aX'0.< ", 6}, {"bF_9x'#", 6}, {"<>=.-;*1 \n", 5}, {"x0'\xe9", 8}, {"1.", 10}} {
		level := []string{""}
		for range x.size {
			var next []string
			for _, s := range level {
				for _, c := range []byte(x.alphabet) {
					next = append(next, s+string([]byte{c}))
				}
			}
			for _, s := range next {
				if check(t, s) {
					read++
				}
			}
			if t.Failed() {
				return
			}
			level = next
		}
	}
	if read < 50000 {
		t.Errorf("only %d texts have tokens", read)
	}
}

// P16.1 to P16.3: each byte, and any two bytes, at all places of short texts.
func TestAllBytes(t *testing.T) {
	for a := range 256 {
		c := string([]byte{byte(a)})
		for _, s := range []string{"", "a", "1", "1.", "1.5", "1.5555", "<", "'", "'a", "''", "x", "x'", "x'0", "x'00", "x'00'", " "} {
			for _, tail := range []string{"", "a", "1", "'", "0'", "00'", " "} {
				check(t, s+c+tail)
			}
		}
		for b := range 256 {
			check(t, c+string([]byte{byte(b)}))
		}
	}
}

// pieces of statements: most of them are tokens.
func pieces() []string {
	return []string{
		"select", "From", "a", "x", "X", "t_1", "0", "12", "1.5", "0.0001", "9223372036854775807", "922337203685477.5807", "9223372036854775808", "922337203685477.5808",
		"'a'", "''", "'it''s'", "'\xff\x00'", "x''", "X'0aF0'", "x'0'", "x'27'", "<=", ">=", "<>", "<", ">", "=", "(", ")", ",", "*", "+", "-", "/", ".", ";", " ", " ", "\t", "\r\n", "'", "_", "#", "é",
		"'" + strings.Repeat("b", 199) + "'", "'" + strings.Repeat("''", 200) + "'", "'" + strings.Repeat("b", 201) + "'", "x'" + strings.Repeat("Ab", 200) + "'", "x'" + strings.Repeat("Ab", 201) + "'",
	}
}

// P16.1 to P16.3: long texts of pieces, most of them with spaces between, up to
// the limit and beyond it.
func TestLongTexts(t *testing.T) {
	r := rand.New(rand.NewPCG(16, 1))
	l, read, long := pieces(), 0, 0
	good := slices.DeleteFunc(slices.Clone(l), func(s string) bool { _, at := model(s); return at >= 0 })
	for range 20000 {
		from, size := good, 1+r.IntN(40)
		if r.IntN(4) == 0 {
			from = l
		}
		var s string
		for range size {
			s += from[r.IntN(len(from))]
			if r.IntN(8) > 0 {
				s += " "
			}
		}
		if r.IntN(8) == 0 && len(s) > api.MaxSQL {
			s = s[:api.MaxSQL+r.IntN(2)]
		}
		if len(s) > api.MaxSQL {
			long++
		}
		if check(t, s) {
			read++
		}
	}
	if read < 3000 || long < 1000 {
		t.Errorf("only %d texts have tokens, and only %d are too long", read, long)
	}
}

// P16.1 to P16.3: a statement with one byte changed, added or left out.
func TestNearTexts(t *testing.T) {
	for _, s := range []string{"Select a_1, 1.5 <= 'it''s'<>x'0aF0';", "insert into t values(12.3456,'''',X'',-0)", "9223372036854775807 922337203685477.5807"} {
		for i := range len(s) + 1 {
			for c := range 256 {
				b := string([]byte{byte(c)})
				check(t, s[:i]+b+s[i:])
				if i < len(s) {
					check(t, s[:i]+b+s[i+1:])
				}
			}
			if i < len(s) {
				check(t, s[:i]+s[i+1:])
			}
		}
	}
}
