package value_test

import (
	"math"
	"math/big"
	"regexp"
	"strings"
	"testing"
	"unsafe"

	"frankpledge/api"
	"frankpledge/value"
)

// P2.1 (V3): Text of valid values.
func TestText(t *testing.T) {
	for v, want := range texts() {
		if got := value.Text(v); got != want {
			t.Errorf("Text(%v) = %q, not %q", v, got, want)
		}
	}
}

// P2.1 (V3): what is not valid has no text of its own.
func TestTextInvalid(t *testing.T) {
	for _, v := range invalid() {
		if got := value.Text(v); got != "?" {
			t.Errorf("Text(%v) = %q", v, got)
		}
	}
}

// P2.1 (V3): Read of the texts of valid values.
func TestRead(t *testing.T) {
	for want, s := range texts() {
		if v, e := value.Read(s); v != want || e != nil {
			t.Errorf("Read(%q) = %v, %v, not %v", s, v, e, want)
		}
	}
}

// P2.1 (V3): what is no value's text, though many of them mean one.
func TestReadFaults(t *testing.T) {
	for _, s := range []string{
		"", " ", "?", "NULL", "Null", "null ", " null", "nul", "nulll", "TRUE", "True", "falsch", "t", "false\x00", "truefalse",
		"00", "01", "-", "--1", "-0", "-01", "+0", "+1", "1 ", " 1", "1_0", "0x1", "1e3", "1a", "٣", "½", "inf", "NaN",
		"9223372036854775808", "-9223372036854775809", "18446744073709551616", "99999999999999999999999",
		".", "-.", "1.", "-1.", ".0000", "-.5000", "0.", "0.000", "0.00000", "1.5", "1.50000", "01.0000", "-0.0000", "-00.0001", "+1.0000",
		"1.0000.0000", "1..000", "1.-500", "1.+500", "1. 500", "1.5_00", "1.000a", "--1.0000", "0.1e00", "1,0000",
		"922337203685477.5808", "-922337203685477.5809", "9223372036854775807.0000", "1000000000000000.0000",
		"'", "'''", "'''''", "'a", "a'", "a", "'a''", "'a'b'", "'a' ", " 'a'", "'a''b", "''a''", "'a'''b'", `"a"`,
		"'" + strings.Repeat("a", api.MaxText+1) + "'", "'" + strings.Repeat("''", api.MaxText+1) + "'",
		"x", "x'", "X''", "x 'aa'", "x'a'", "x'aaa'", "x'AA'", "x'aA'", "x'0F'", "x'gg'", "x'0x'", "x'+1'", "x'-1'", "x' 1'", "x'1_'", "x'a''a'", "x'27''", "x'27'27'", "x''''", "xx''", "'x'27'", "x'00' ", "x\"00\"",
		"x'" + strings.Repeat("00", api.MaxText+1) + "'", "x'" + strings.Repeat("00", api.MaxText) + "0'",
	} {
		v, e := value.Read(s)
		faulty(t, "Read("+s+")", v, e, api.ErrText, 0)
	}
}

// P1: texts without an end of any use are refused in time.
func TestReadLong(t *testing.T) {
	long := strings.Repeat("'0", 1<<21)
	for _, s := range []string{long, long + "'", "x" + long, "x'" + strings.Repeat("0", 1<<22) + "'", strings.Repeat("9", 1<<22), strings.Repeat(".", 1<<22), "'" + strings.Repeat("'", 1<<22) + "'"} {
		v, e := value.Read(s)
		faulty(t, "Read of a long text", v, e, api.ErrText, 0)
	}
}

// form is what the document says of texts, but for limits and the range of
// numbers.
var form = regexp.MustCompile(`(?s)^(null|false|true|-?[1-9][0-9]*|0|-?(0|[1-9][0-9]*)\.[0-9]{4}|'([^']|'')*'|x'([0-9a-f]{2})*')$`)

// likely tells whether a short text is some value's.
func likely(s string) bool {
	if !form.MatchString(s) || s == "-0.0000" {
		return false
	}
	n, ok := new(big.Int).SetString(strings.Replace(s, ".", "", 1), 10)
	return !ok || n.IsInt64()
}

// P2.2: of all short texts of the bytes that count, just those of the document's
// form are read, and each as a valid value that has this text.
func TestAllShortTexts(t *testing.T) {
	const alphabet = "-01.'xaA?"
	level, read := []string{""}, 0
	for range 7 {
		var next []string
		for _, s := range level {
			v, e := value.Read(s)
			if (e == nil) != likely(s) {
				t.Fatalf("Read(%q) = %v, %v", s, v, e)
			}
			if e == nil {
				read++
				if !value.Right(v) || value.Text(v) != s {
					t.Fatalf("%q is read as %v, whose text is %q", s, v, value.Text(v))
				}
			}
			for _, c := range []byte(alphabet) {
				next = append(next, s+string(c))
			}
		}
		level = next
	}
	if read < 1000 {
		t.Errorf("only %d texts are read", read)
	}
}

// P2.2: a text with one byte changed, added or left out is read only if it is
// of the document's form, and then has this text.
func TestNearTexts(t *testing.T) {
	near := func(s string) {
		v, e := value.Read(s)
		if (e == nil) != (likely(s) && len(s) < api.MaxText) {
			t.Errorf("Read(%q) = %v, %v", s, v, e)
		}
		if e == nil && (!value.Right(v) || value.Text(v) != s) {
			t.Errorf("%q is read as %v, whose text is %q", s, v, value.Text(v))
		}
	}
	for _, s := range texts() {
		if len(s) > 50 {
			continue
		}
		for i := range len(s) + 1 {
			for _, c := range []byte("-+0189.'xafXF_ \x00\xff") {
				near(s[:i] + string([]byte{c}) + s[i:])
				if i < len(s) {
					near(s[:i] + string([]byte{c}) + s[i+1:])
				}
			}
			if i < len(s) {
				near(s[:i] + s[i+1:])
			}
		}
	}
}

// inverse fails unless a value is read from its text.
func inverse(t *testing.T, v api.Value) {
	t.Helper()
	s := value.Text(v)
	if got, e := value.Read(s); got != v || e != nil || !likely(s) {
		t.Errorf("the text %q of %v is read as %v, %v", s, v, got, e)
	}
}

// P2.2: Read inverts Text: numbers about every power of two and of ten.
func TestInverseNumbers(t *testing.T) {
	var l []int64
	for i := range 64 {
		l = append(l, 1<<i)
	}
	for n := int64(1); n < math.MaxInt64/10; n *= 10 {
		l = append(l, n*10)
	}
	for _, n := range l {
		for d := int64(-2); d <= 2; d++ {
			for _, k := range []api.Kind{api.Int, api.Dec} {
				inverse(t, api.Value{Kind: k, N: n + d})
				inverse(t, api.Value{Kind: k, N: -n + d})
				inverse(t, api.Value{Kind: k, N: n*7 + d})
			}
		}
	}
}

// P2.2: Read inverts Text: all short texts and bytes of some bytes, each byte
// alone, and the greatest lengths.
func TestInverseBytes(t *testing.T) {
	level := []string{""}
	for range 6 {
		var next []string
		for _, s := range level {
			inverse(t, text(s))
			inverse(t, bytes(s))
			for _, c := range []byte{'\'', 'x', 0, 0xff} {
				next = append(next, s+string([]byte{c}))
			}
		}
		level = next
	}
	for c := range 256 {
		for _, n := range []int{1, 2, api.MaxText - 1, api.MaxText} {
			s := strings.Repeat(string([]byte{byte(c)}), n)
			inverse(t, text(s))
			inverse(t, bytes(s))
		}
	}
}

// within tells whether a string lies in the memory of another one.
func within(s, other string) bool {
	at, from := uintptr(unsafe.Pointer(unsafe.StringData(s))), uintptr(unsafe.Pointer(unsafe.StringData(other)))
	return s != "" && at >= from && at < from+uintptr(len(other))
}

// Rule 4: arguments are not kept.
func TestNewMemory(t *testing.T) {
	for _, body := range []string{"abc", "it''s", "''"} {
		s := strings.Clone("'" + body + "'")
		v, e := value.Read(s)
		if e != nil || within(v.S, s) {
			t.Errorf("Read(%q) keeps its argument (%v)", s, e)
		}
		if within(value.Text(v), v.S) {
			t.Errorf("Text(%v) keeps its argument", v)
		}
	}
}
