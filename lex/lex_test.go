package lex_test

import (
	"math"
	"slices"
	"strings"
	"sync"
	"testing"
	"unsafe"

	"frankpledge/api"
	"frankpledge/fault"
	"frankpledge/lex"
)

func whole(n int64) api.Value   { return api.Value{Kind: api.Int, N: n} }
func decimal(n int64) api.Value { return api.Value{Kind: api.Dec, N: n} }
func text(s string) api.Value   { return api.Value{Kind: api.Text, S: s} }
func bytes(s string) api.Value  { return api.Value{Kind: api.Bytes, S: s} }

func word(s string, at int) lex.Token { return lex.Token{Kind: lex.Word, Text: s, At: at} }
func sign(s string, at int) lex.Token { return lex.Token{Kind: lex.Sign, Text: s, At: at} }
func end(at int) lex.Token            { return lex.Token{Kind: lex.End, At: at} }

func number(s string, v api.Value, at int) lex.Token {
	return lex.Token{Kind: lex.Number, Text: s, Value: v, At: at}
}

func texts(s string, v api.Value, at int) lex.Token {
	return lex.Token{Kind: lex.Text, Text: s, Value: v, At: at}
}

func hexes(s string, v api.Value, at int) lex.Token {
	return lex.Token{Kind: lex.Bytes, Text: s, Value: v, At: at}
}

// split fails unless a text has just these tokens.
func split(t *testing.T, s string, want ...lex.Token) {
	t.Helper()
	if got, e := lex.Lex(s); e != nil || !slices.Equal(got, want) {
		t.Errorf("Lex(%q) = %v, %v, not %v", s, got, e, want)
	}
}

// one fails unless a text has just one token, of its own length.
func one(t *testing.T, s string, want lex.Token) {
	t.Helper()
	split(t, s, want, end(len(s)))
}

// refused fails unless there is just the one fault, and nothing beside it.
func refused(t *testing.T, s string, at int) {
	t.Helper()
	got, e := lex.Lex(s)
	if !slices.Equal(fault.Codes(e), []api.Errno{api.ErrSign}) || !slices.Equal(fault.Places(e), []int{at}) {
		t.Errorf("Lex(%q) has %v, not ErrSign at %d", s, e, at)
	}
	if len(got) != 0 {
		t.Errorf("Lex(%q) = %v beside a fault", s, got)
	}
}

// P16.1: the numbers of the kinds.
func TestKinds(t *testing.T) {
	for i, k := range []lex.Kind{lex.Word, lex.Number, lex.Text, lex.Bytes, lex.Sign, lex.End} {
		if int(k) != i+1 {
			t.Errorf("kind %d is %d", i+1, k)
		}
	}
}

// P16.1 (X1): whole statements.
func TestStatements(t *testing.T) {
	split(t, "Select T.a, count(*)FROM t\r\n\tWHERE b<=-1.5 ;",
		word("select", 0), word("t", 7), sign(".", 8), word("a", 9), sign(",", 10), word("count", 12), sign("(", 17), sign("*", 18), sign(")", 19),
		word("from", 20), word("t", 25), word("where", 29), word("b", 35), sign("<=", 36), sign("-", 38), number("1.5", decimal(15000), 39), sign(";", 43), end(44))
	split(t, "insert into t values(1,'it''s',x'0aF0',null)",
		word("insert", 0), word("into", 7), word("t", 12), word("values", 14), sign("(", 20), number("1", whole(1), 21), sign(",", 22),
		texts("'it''s'", text("it's"), 23), sign(",", 30), hexes("x'0aF0'", bytes("\x0a\xf0"), 31), sign(",", 38), word("null", 39), sign(")", 43), end(44))
	split(t, "a<>b", word("a", 0), sign("<>", 1), word("b", 3), end(4))
}

// P16.1 (X1): texts without tokens have an end only, behind all white space.
func TestBlank(t *testing.T) {
	split(t, "", end(0))
	split(t, " \t\n\r", end(4))
	split(t, strings.Repeat("\n", api.MaxSQL), end(api.MaxSQL))
	split(t, "\r\na \tb\n", word("a", 2), word("b", 5), end(7))
	for _, s := range []string{"\v", "\f", "\x00", "\u0085", "\u00a0", "\u2003", "\ufeff", "\x1f", "!", "\x21", "\b", "\x0e", "\x1b"} {
		refused(t, s, 0)
		refused(t, " a "+s, 3)
	}
}

// P16.1: words.
func TestWords(t *testing.T) {
	for s, want := range map[string]string{
		"a": "a", "Z": "z", "a_": "a_", "A__9": "a__9", "selECT": "select", "x": "x", "X": "x", "xx": "xx", "x1": "x1", "X_": "x_",
		"abcdefghijklmnopqrstuvwxyz": "abcdefghijklmnopqrstuvwxyz", "ABCDEFGHIJKLMNOPQRSTUVWXYZ0123456789_": "abcdefghijklmnopqrstuvwxyz0123456789_",
		strings.Repeat("aB", api.MaxSQL/2): strings.Repeat("ab", api.MaxSQL/2),
	} {
		one(t, s, word(want, 0))
	}
	for _, s := range []string{"_", "_a", "_1", "é", "ä", "\u212a", "\u017f", "Ⅷ", "٣", "\xe9"} {
		refused(t, s, 0)
		refused(t, "a "+s, 2)
	}
	refused(t, "aé", 1)
	refused(t, "a_\u212a", 2)
	refused(t, "ab$", 2)
}

// P16.1: an x is a word's, unless it begins a token and an apostrophe follows.
func TestX(t *testing.T) {
	split(t, "ax'00'", word("ax", 0), texts("'00'", text("00"), 2), end(6))
	split(t, "x x'00'", word("x", 0), hexes("x'00'", bytes("\x00"), 2), end(7))
	split(t, "x '00'", word("x", 0), texts("'00'", text("00"), 2), end(6))
	split(t, "xx'00'X'00'", word("xx", 0), texts("'00'", text("00"), 2), hexes("X'00'", bytes("\x00"), 6), end(11))
	split(t, "*x'00'", sign("*", 0), hexes("x'00'", bytes("\x00"), 1), end(6))
	split(t, "x''x", hexes("x''", bytes(""), 0), word("x", 3), end(4))
	refused(t, "x'zz'", 0)
	refused(t, "1x'00'", 0)
	refused(t, "_x'00'", 0)
}

// P16.1: numbers, up to the greatest ones.
func TestNumbers(t *testing.T) {
	for s, want := range map[string]api.Value{
		"0": whole(0), "7": whole(7), "10": whole(10), "007": whole(7), "00": whole(0), "08": whole(8), "1234567890": whole(1234567890),
		"9223372036854775807": whole(math.MaxInt64), "00009223372036854775807": whole(math.MaxInt64),
		strings.Repeat("0", api.MaxSQL-1) + "5": whole(5),
		"0.0":                                   decimal(0), "0.0000": decimal(0), "1.0": decimal(10000), "1.5": decimal(15000), "1.05": decimal(10500), "1.005": decimal(10050), "1.0005": decimal(10005),
		"1.2345": decimal(12345), "1.50": decimal(15000), "00.5": decimal(5000), "12.34": decimal(123400), "0.0001": decimal(1),
		"922337203685477.5807": decimal(math.MaxInt64), "0922337203685477.5807": decimal(math.MaxInt64), "922337203685477.58": decimal(9223372036854775800), "922337203685477.0": decimal(9223372036854770000),
		strings.Repeat("0", api.MaxSQL-2) + ".5": decimal(5000),
	} {
		one(t, s, number(s, want, 0))
	}
}

// P16.1 (X1): what does not fit in 64 bits.
func TestNumbersBeyond(t *testing.T) {
	for _, s := range []string{
		"9223372036854775808", "9223372036854775817", "10000000000000000000", "18446744073709551615", "18446744073709551616", "18446744073709551617", "36893488147419103239", "00009223372036854775808", strings.Repeat("9", api.MaxSQL),
		"922337203685477.5808", "922337203685477.581", "922337203685477.59", "922337203685477.6", "922337203685478.0", "9223372036854775807.0", "9223372036854775807.0000", "1844674407370955.1616", "1844674407370955.2", strings.Repeat("9", api.MaxSQL-5) + ".0000",
	} {
		refused(t, s, 0)
		if len(s) < api.MaxSQL-3 {
			refused(t, "a- "+s, 3)
		}
	}
}

// P16.1: what may not follow a number, and what may.
func TestNumbersEnd(t *testing.T) {
	for _, s := range []string{
		"1.", "1.a", "1. 5", "1.*", "1.'a'", "1._", "1.12345", "1.123456789", "1.00000", "1.5.", "1.5.5", "1..", "1..5", "1.5..", "1.2.3.4", "0.1234.",
		"1a", "1x", "1_", "1_000", "1x'00'", "0x1", "1e5", "1E5", "1.5a", "1.5_", "1.5e3", "1.5x'00'", "1.2345a", "1.2345_", "1Z",
	} {
		refused(t, s, 0)
		refused(t, "(a = "+s, 5)
	}
	split(t, "1'a'", number("1", whole(1), 0), texts("'a'", text("a"), 1), end(4))
	split(t, "1 .5", number("1", whole(1), 0), sign(".", 2), number("5", whole(5), 3), end(4))
	split(t, ".5", sign(".", 0), number("5", whole(5), 1), end(2))
	split(t, "a.5.5", word("a", 0), sign(".", 1), number("5.5", decimal(55000), 2), end(5))
	split(t, "1 a", number("1", whole(1), 0), word("a", 2), end(3))
	split(t, "1 .", number("1", whole(1), 0), sign(".", 2), end(3))
	split(t, "1,2", number("1", whole(1), 0), sign(",", 1), number("2", whole(2), 2), end(3))
	split(t, "1.5-2", number("1.5", decimal(15000), 0), sign("-", 3), number("2", whole(2), 4), end(5))
	split(t, "-1", sign("-", 0), number("1", whole(1), 1), end(2))
	split(t, "+1", sign("+", 0), number("1", whole(1), 1), end(2))
	refused(t, "1é", 1)
	refused(t, "1.5\x00", 3)
	refused(t, "1#", 1)
}

// P16.1: texts of any bytes.
func TestTexts(t *testing.T) {
	for s, want := range map[string]string{
		"''": "", "'a'": "a", "' '": " ", "''''": "'", "''''''": "''", "'it''s'": "it's", "'''a'": "'a", "'a'''": "a'", "'a''''b'": "a''b",
		"'\n'": "\n", "'\x00\xff'": "\x00\xff", "'Grüße'": "Grüße", "'#'": "#", "'x'": "x", "'x''00'": "x'00", "'\\'": "\\", "'\"'": "\"", "'--'": "--", "'A'": "A",
		"'" + strings.Repeat("a", api.MaxText) + "'":   strings.Repeat("a", api.MaxText),
		"'" + strings.Repeat("''", api.MaxText) + "'":  strings.Repeat("'", api.MaxText),
		"'" + strings.Repeat("é", api.MaxText/2) + "'": strings.Repeat("é", api.MaxText/2),
	} {
		one(t, s, texts(s, text(want), 0))
	}
	split(t, "'a' 'b'", texts("'a'", text("a"), 0), texts("'b'", text("b"), 4), end(7))
	split(t, "'a'b'c'1", texts("'a'", text("a"), 0), word("b", 3), texts("'c'", text("c"), 4), number("1", whole(1), 7), end(8))
	for _, s := range []string{
		"'", "'a", "'''", "'''''", "'a''", "'a''b", "' ", "'\n",
		"'" + strings.Repeat("a", api.MaxText+1) + "'", "'" + strings.Repeat("''", api.MaxText+1) + "'", "'" + strings.Repeat("é", api.MaxText/2) + "a'",
		"'" + strings.Repeat("a", api.MaxSQL-2) + "'", "'" + strings.Repeat("a", api.MaxSQL-1), strings.Repeat("'", 999),
	} {
		refused(t, s, 0)
	}
	refused(t, "'a' 'b", 4)
	refused(t, "a'b", 1)
	refused(t, "a, '"+strings.Repeat("a", api.MaxText+1)+"' #", 3)
}

// P16.1: bytes, with digits of both cases.
func TestBytes(t *testing.T) {
	for s, want := range map[string]string{
		"x''": "", "X''": "", "x'00'": "\x00", "X'00'": "\x00", "x'0a'": "\x0a", "x'0A'": "\x0a", "X'aF'": "\xaf", "x'Fa'": "\xfa", "x'FF00'": "\xff\x00", "x'27'": "'", "x'0123456789'": "\x01\x23\x45\x67\x89", "x'abcdefABCDEF'": "\xab\xcd\xef\xab\xcd\xef",
		"x'" + strings.Repeat("9e", api.MaxText) + "'": strings.Repeat("\x9e", api.MaxText),
	} {
		one(t, s, hexes(s, bytes(want), 0))
	}
	split(t, "x'00''01'", hexes("x'00'", bytes("\x00"), 0), texts("'01'", text("01"), 5), end(9))
	split(t, "x'00'x'01'", hexes("x'00'", bytes("\x00"), 0), hexes("x'01'", bytes("\x01"), 5), end(10))
	refused(t, "x'''", 3)
	split(t, "x'00'00", hexes("x'00'", bytes("\x00"), 0), number("00", whole(0), 5), end(7))
	for _, s := range []string{
		"x'", "X'", "x'0", "x'00", "x'0'", "x'000'", "x'0g'", "x'g0'", "x'0G'", "x'xx'", "x' 00'", "x'00 '", "x'0 0'", "x'+1'", "x'-1'", "x'0x'", "x'1_'", "x'_1'", "x'0/'", "x'0:'", "x'0@'", "x'0`'", "x'\x00\x00'", "x'é'", "x'0''0'", "x'.0'",
		"x'" + strings.Repeat("00", api.MaxText+1) + "'", "x'" + strings.Repeat("00", api.MaxText) + "0'", "x'" + strings.Repeat("0", 997) + "'", "x'" + strings.Repeat("0", 998),
	} {
		refused(t, s, 0)
		if len(s) < api.MaxSQL-3 {
			refused(t, "a, "+s, 3)
		}
	}
}

// P16.1: the longest sign that matches, for any two and three of them.
func TestSigns(t *testing.T) {
	for _, s := range []string{"<=", ">=", "<>", "(", ")", ",", "*", "+", "-", "/", "=", "<", ">", ".", ";"} {
		one(t, s, sign(s, 0))
	}
	split(t, "<=>", sign("<=", 0), sign(">", 2), end(3))
	split(t, "<>=", sign("<>", 0), sign("=", 2), end(3))
	split(t, "<<=", sign("<", 0), sign("<=", 1), end(3))
	split(t, "><=", sign(">", 0), sign("<=", 1), end(3))
	split(t, ">>=", sign(">", 0), sign(">=", 1), end(3))
	split(t, ">=<", sign(">=", 0), sign("<", 2), end(3))
	split(t, "==", sign("=", 0), sign("=", 1), end(2))
	split(t, "=<", sign("=", 0), sign("<", 1), end(2))
	split(t, "=>", sign("=", 0), sign(">", 1), end(2))
	split(t, "><", sign(">", 0), sign("<", 1), end(2))
	split(t, "< =", sign("<", 0), sign("=", 2), end(3))
	split(t, "--", sign("-", 0), sign("-", 1), end(2))
	split(t, "/*", sign("/", 0), sign("*", 1), end(2))
	split(t, "..", sign(".", 0), sign(".", 1), end(2))
	for _, s := range []string{"!", "!=", "\"", "#", "$", "%", "&", ":", "?", "@", "[", "\\", "]", "^", "`", "{", "|", "}", "~", "\x7f", "\x80", "\xff"} {
		refused(t, s, 0)
		refused(t, "<"+s, 1)
		refused(t, "a >= "+s, 5)
	}
}

// P16.1 (X1): the first token that is none decides.
func TestFirstFault(t *testing.T) {
	refused(t, "#1a'", 0)
	refused(t, "a 1a #'", 2)
	refused(t, "a 'b #1a", 2)
	refused(t, "'#' # 'a", 4)
	refused(t, "x'0' 99999999999999999999", 0)
	refused(t, "\n\t99999999999999999999 x'0'", 2)
}

// P16.1 (X1): the limit, whatever the text is made of.
func TestLimit(t *testing.T) {
	long, e := lex.Lex(strings.Repeat(",", api.MaxSQL))
	if e != nil || len(long) != api.MaxSQL+1 || long[api.MaxSQL-1] != sign(",", api.MaxSQL-1) || long[api.MaxSQL] != end(api.MaxSQL) {
		t.Errorf("%d signs, %v", len(long), e)
	}
	for _, s := range []string{" ", ",", "a", "0", "'", "''", "#", " #", "a #", "\n"} {
		refused(t, strings.Repeat(s, api.MaxSQL+1)[:api.MaxSQL+1], 0)
	}
	refused(t, "a "+strings.Repeat(" ", api.MaxSQL-2)+"#", 0)
	refused(t, strings.Repeat(" ", api.MaxSQL-1)+"#", api.MaxSQL-1)
	refused(t, strings.Repeat("a", 1<<22), 0)
	refused(t, strings.Repeat(" ", api.MaxSQL)+" ", 0)
}

// P2: the same again, and in goroutines side by side.
func TestSameAgain(t *testing.T) {
	const s = "Select a_1, 1.5<='it''s' x'0aF0';"
	want, _ := lex.Lex(s)
	var all sync.WaitGroup
	for range 8 {
		all.Go(func() {
			for range 100 {
				if got, e := lex.Lex(s); e != nil || !slices.Equal(got, want) {
					t.Errorf("%v, %v, not %v", got, e, want)
					return
				}
				refused(t, s+"#", len(s))
			}
		})
	}
	all.Wait()
}

// Rule 4: tokens share no memory with other ones, nor with the text.
func TestNewMemory(t *testing.T) {
	s := strings.Clone("Select a, 1.5 <= 'it''s' , 'abc' x'616263';")
	a, _ := lex.Lex(s)
	b, _ := lex.Lex(s)
	a[0], a[len(a)-1] = sign("?", 9), sign("?", 9)
	if b[0] != word("select", 0) || b[len(b)-1] != end(len(s)) {
		t.Error("two answers share tokens")
	}
	from := uintptr(unsafe.Pointer(unsafe.StringData(s)))
	for _, k := range b {
		for _, part := range []string{k.Text, k.Value.S} {
			p := uintptr(unsafe.Pointer(unsafe.StringData(part)))
			if part != "" && p >= from && p < from+uintptr(len(s)) {
				t.Errorf("%q is a piece of the argument", part)
			}
		}
	}
}

// The example of README.md.
func TestReadmeExample(t *testing.T) {
	split(t, "Select a <= 1.5, X'0aF0';",
		word("select", 0), word("a", 7), sign("<=", 9), number("1.5", decimal(15000), 12), sign(",", 15), hexes("X'0aF0'", bytes("\x0a\xf0"), 17), sign(";", 24), end(25))
	split(t, "'it''s'", texts("'it''s'", text("it's"), 0), end(7))
	refused(t, "a <= 1.", 5)
}
