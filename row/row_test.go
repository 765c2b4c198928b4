package row_test

import (
	"bytes"
	"fmt"
	"math/rand/v2"
	"slices"
	"strings"
	"sync"
	"testing"
	"unsafe"

	"frankpledge/api"
	"frankpledge/row"
)

// P5.1 (R1): encodings by hand.
func TestEncode(t *testing.T) {
	for _, x := range examples() {
		if got := encoded(t, x.row); got != x.code {
			t.Errorf("Encode(%v) = %q, not %q", x.row, got, x.code)
		}
	}
}

// P5.1 (R1): what is no row: a value that is not valid, wherever it stands.
func TestEncodeInvalid(t *testing.T) {
	for _, w := range invalid() {
		for n := 1; n <= api.MaxValues; n++ {
			for i := range n {
				l := nulls(n)
				l[i] = w
				if b, e := row.Encode(l); e != api.ErrRow || len(b) != 0 {
					t.Errorf("Encode of a list with %.99v at %d of %d = %q, %d", w, i, n, b, e)
				}
			}
		}
	}
}

// P5.1 (R1): the greatest count of values, and more, which a byte may hold or
// not.
func TestEncodeLimit(t *testing.T) {
	for _, x := range examples() {
		if len(x.row) != 1 {
			continue
		}
		l := slices.Repeat(x.row, api.MaxValues)
		if got := encoded(t, l); got != "\x10"+strings.Repeat(x.code[1:], api.MaxValues) {
			t.Errorf("Encode of 16 times %v = %q", x.row, got)
		}
		for _, n := range []int{1, 2, 100, 239, 240, 241, 250, 256} {
			if b, e := row.Encode(append(l, nulls(n)...)); e != api.ErrRow || len(b) != 0 {
				t.Errorf("Encode of 16 times %v and %d more = %q, %d", x.row, n, b, e)
			}
		}
	}
}

// P5.1 (R1): rows by hand.
func TestDecode(t *testing.T) {
	for _, x := range examples() {
		if l, e := row.Decode([]byte(x.code)); e != api.OK || !slices.Equal(l, x.row) {
			t.Errorf("Decode(%q) = %v, %d, not %v", x.code, l, e, x.row)
		}
	}
}

// P5.1 (R1): a count that is not that of the values.
func TestDecodeCount(t *testing.T) {
	noRow(t, "")
	for _, x := range examples() {
		for n := range 256 {
			if n != len(x.row) {
				noRow(t, string([]byte{byte(n)})+x.code[1:])
			}
		}
	}
	for n := api.MaxValues + 1; n < 256; n++ {
		noRow(t, string([]byte{byte(n)})+strings.Repeat("\x00", n))
		noRow(t, string([]byte{byte(n)})+strings.Repeat("\x04\x02a", n))
	}
}

// P5.1 (R1): a value that is none, behind others and alone.
func TestDecodeFaults(t *testing.T) {
	bad := []string{
		"", "\x01", "\x02", "\x03", "\x04", "\x05",
		"\x02\x80", "\x02\x80\x00", "\x02\x81\x80\x00", "\x03\xff\x00", "\x03\x80\x80",
		"\x02\xff\xff\xff\xff\xff\xff\xff\xff\xff\x02", "\x02\xff\xff\xff\xff\xff\xff\xff\xff\xff\x03", "\x03\x80\x80\x80\x80\x80\x80\x80\x80\x80\x7f", "\x02\x80\x80\x80\x80\x80\x80\x80\x80\x80\x80\x01",
	}
	for kind := 6; kind < 256; kind++ {
		bad = append(bad, string([]byte{byte(kind)}), string([]byte{byte(kind), 0}), string([]byte{byte(kind), 2, 'a'}))
	}
	for truth := 2; truth < 256; truth++ {
		bad = append(bad, string([]byte{1, byte(truth)}))
	}
	for _, kind := range []string{"\x04", "\x05"} {
		for _, n := range []int64{-1, -2, -64, -65, -200, -201, -1 << 31, least, api.MaxText + 1, 256, 65536, 1 << 31, 1 << 32, 1<<32 + 1, 1 << 62, most} {
			for _, s := range []string{"", "a", strings.Repeat("a", api.MaxText), strings.Repeat("a", api.MaxText+1), strings.Repeat("a", 256)} {
				bad = append(bad, kind+varint(n)+s)
			}
		}
		for n := range int64(api.MaxText + 1) {
			if n > 0 {
				bad = append(bad, kind+varint(n)+strings.Repeat("a", int(n-1)))
			}
			bad = append(bad, kind+varint(n)+strings.Repeat("a", int(n+1)))
		}
		bad = append(bad, kind+"\x80", kind+"\x80\x00", kind+"\x82\x00a", kind+"\xff\xff\xff\xff\xff\xff\xff\xff\xff\x03", kind+"\x90\x83\x00"+strings.Repeat("a", api.MaxText))
	}
	for _, s := range bad {
		noRow(t, "\x01"+s)
		noRow(t, "\x02\x00"+s)
		noRow(t, "\x03\x01\x01\x04\x02a"+s)
	}
}

// P5.1 (R1): no encoding begins another one, so that one that is cut short, or
// goes on, is none.
func TestDecodeCut(t *testing.T) {
	for _, x := range examples() {
		for i := range len(x.code) {
			noRow(t, x.code[:i])
		}
		for c := range 256 {
			noRow(t, x.code+string([]byte{byte(c)}))
		}
		for _, y := range examples() {
			noRow(t, x.code+y.code)
		}
	}
}

// likely tells whether bytes are a row's encoding, as the document says it.
func likely(s string) bool {
	if s == "" || s[0] > 16 {
		return false
	}
	count := int(s[0])
	s = s[1:]
	for range count {
		n, ok := likelyValue(s)
		if !ok {
			return false
		}
		s = s[n:]
	}
	return s == ""
}

// likelyValue is the length of the value that bytes begin with.
func likelyValue(s string) (int, bool) {
	if s == "" || s[0] > 5 {
		return 0, false
	}
	n, size, ok := begins(s[1:])
	switch s[0] {
	case 0:
		return 1, true
	case 1:
		return 2, len(s) > 1 && s[1] < 2
	case 2, 3:
		return 1 + size, ok
	}
	return 1 + size + int(n), ok && n >= 0 && n <= 200 && len(s) >= 1+size+int(n)
}

// checkForm fails unless bytes are decoded just if they are of the document's
// form, and then as a row that has exactly this encoding.
func checkForm(t *testing.T, s string) bool {
	t.Helper()
	l, e := row.Decode([]byte(s))
	if want := likely(s); (e == api.OK) != want {
		t.Fatalf("Decode(%q) = %v, %d", s, l, e)
	}
	if e == api.OK && encoded(t, l) != s {
		t.Fatalf("%q is decoded as %v, whose encoding is %q", s, l, encoded(t, l))
	}
	if e != api.OK && (e != api.ErrRow || len(l) != 0) {
		t.Fatalf("Decode(%q) = %v, %d", s, l, e)
	}
	return e == api.OK
}

// P5.1 (R1), P5.2: of all short bytes of those that count, just those of the
// document's form are decoded, each as a row with exactly this encoding.
func TestAllShortCodes(t *testing.T) {
	decoded := 0
	for _, s := range all("\x00\x01\x02\x03\x04\x05\x80\xff", 6) {
		if checkForm(t, s) {
			decoded++
		}
	}
	for _, head := range []string{"\x01\x02\x80\xff\x80\xff\x80\xff\x80", "\x01\x03\xff\xff\xff\xff\xff\xff\xff", "\x02\x04\x02\x80\x03\x81"} {
		for _, s := range all("\x00\x01\x02\x03\x7f\x80\xff", 4) {
			if checkForm(t, head+s) {
				decoded++
			}
		}
	}
	if decoded < 3000 {
		t.Errorf("only %d are decoded", decoded)
	}
}

// P5.1 (R1), P5.2: encodings with one byte changed, added or left out.
func TestNearCodes(t *testing.T) {
	for _, x := range examples() {
		for i := range len(x.code) + 1 {
			if i > 20 && i < len(x.code)-1 {
				continue
			}
			for c := range 256 {
				put := string([]byte{byte(c)})
				checkForm(t, x.code[:i]+put+x.code[i:])
				if i < len(x.code) {
					checkForm(t, x.code[:i]+put+x.code[i+1:])
				}
			}
			if i < len(x.code) {
				checkForm(t, x.code[:i]+x.code[i+1:])
			}
		}
	}
}

// P5.2: Decode inverts Encode.
func TestInverse(t *testing.T) {
	var l [][]api.Value
	r := rand.New(rand.NewPCG(3, 4))
	for range 20000 {
		l = append(l, anyRow(r))
	}
	for c := range 256 {
		for n := range api.MaxText + 1 {
			s := strings.Repeat(string([]byte{byte(c)}), n)
			l = append(l, list(text(s), blob(s)))
		}
	}
	for _, n := range numbers() {
		l = append(l, list(whole(n), decimal(n)), slices.Repeat(list(whole(n)), api.MaxValues))
	}
	for _, a := range l {
		s := encoded(t, a)
		if b, e := row.Decode([]byte(s)); e != api.OK || !slices.Equal(a, b) {
			t.Fatalf("the encoding %q of %v is decoded as %v, %d", s, a, b, e)
		}
	}
}

// room is a copy of a list in memory that has more of it behind its end.
func room[T any](l []T, behind T) []T {
	return append(append(make([]T, 0, len(l)+3), l...), behind, behind, behind)[:len(l)]
}

// Rule 4: arguments are neither changed nor read behind their end.
func TestArguments(t *testing.T) {
	for _, x := range examples() {
		l := room(x.row, api.Value{Kind: 9})
		if b, e := row.Encode(l); e != api.OK || string(b) != x.code {
			t.Errorf("Encode(%v) = %q, %d", l, b, e)
		}
		if full := l[:cap(l)]; !slices.Equal(full[:len(l)], x.row) || full[len(l)] != (api.Value{Kind: 9}) {
			t.Errorf("Encode changes %v", x.row)
		}
		for _, behind := range []byte{0, 1, 255} {
			b := room([]byte(x.code), behind)
			if l, e := row.Decode(b); e != api.OK || !slices.Equal(l, x.row) {
				t.Errorf("Decode(%q) = %v, %d", b, l, e)
			}
			n, size, ok := row.Long(b)
			if m, want, wantOk := begins(x.code); n != m || size != want || ok != wantOk {
				t.Errorf("Long(%q) = %d, %d, %v", b, n, size, ok)
			}
			if full := b[:cap(b)]; string(full[:len(b)]) != x.code || full[len(b)] != behind {
				t.Errorf("%q is changed", x.code)
			}
		}
	}
	for _, s := range []string{"\x80", "\xff\xff", "\x01\x02\x80", "\x01\x04\x04a", "\x01"} {
		b := room([]byte(s), 1)
		if l, e := row.Decode(b); e != api.ErrRow || len(l) != 0 {
			t.Errorf("Decode(%q) = %v, %d", b, l, e)
		}
	}
	if n, size, ok := row.Long(room([]byte("\x80"), 1)); n != 0 || size != 0 || ok {
		t.Errorf("Long reads behind the end: %d, %d", n, size)
	}
}

// within tells whether memory of a result lies in that of an argument.
func within(at *byte, of []byte) bool {
	from := uintptr(unsafe.Pointer(unsafe.SliceData(of)))
	return at != nil && uintptr(unsafe.Pointer(at)) >= from && uintptr(unsafe.Pointer(at)) < from+uintptr(cap(of))
}

// Rule 4: results are new memory.
func TestNewMemory(t *testing.T) {
	for _, s := range []string{"\x01\x04\x06abc", "\x02\x05\x04a\x00\x04\x02c"} {
		b := []byte(s)
		l, e := row.Decode(b)
		for _, v := range l {
			if e != api.OK || within(unsafe.StringData(v.S), b) {
				t.Errorf("Decode(%q) keeps its argument (%d)", s, e)
			}
		}
		clear(b)
		if x, e := row.Encode(l); e != api.OK || string(x) != s {
			t.Errorf("%q is changed to %q afterwards", s, x)
		}
	}
	for _, n := range []int64{0, 1, -1, 64, most, least} {
		b := row.Short(n)
		clear(b)
		if got := string(row.Short(n)); got != varint(n) {
			t.Errorf("Short(%d) = %q after an answer was changed", n, got)
		}
	}
	b, _ := row.Encode(nil)
	b[0] = 9
	if got := encoded(t, nil); got != "\x00" {
		t.Errorf("Encode(nil) = %q after an answer was changed", got)
	}
}

// P1: bytes and lists without an end of any use are refused in time.
func TestLong(t *testing.T) {
	const n = 1 << 22
	for _, c := range []byte{0, 1, 2, 16, 128, 255} {
		noRow(t, string(bytes.Repeat([]byte{c}, n)))
		noRow(t, "\x01\x02"+string(bytes.Repeat([]byte{c}, n)))
		noRow(t, "\x01\x04"+string(bytes.Repeat([]byte{c}, n)))
		noRow(t, "\x01\x05"+varint(n)+string(bytes.Repeat([]byte{c}, n)))
	}
	noNumber(t, strings.Repeat("\x80", n))
	noNumber(t, strings.Repeat("\xff", n)+"\x01")
	if b, e := row.Encode(nulls(n)); e != api.ErrRow || len(b) != 0 {
		t.Errorf("Encode of a long list: %d bytes, %d", len(b), e)
	}
}

// outcomes are those of calls with right and wrong arguments, as text.
func outcomes() []string {
	l := []string{fmt.Sprint(row.Encode(invalid()))}
	for _, x := range examples() {
		b, e := row.Encode(x.row)
		back, wrong := row.Decode(b)
		l = append(l, fmt.Sprint(b, e, back, wrong))
	}
	for _, n := range numbers() {
		l = append(l, string(row.Short(n)))
	}
	for _, s := range all("\x00\x01\x04\x81\xff", 5) {
		a, e := row.Decode([]byte(s))
		n, size, ok := row.Long([]byte(s))
		l = append(l, fmt.Sprint(a, e, n, size, ok))
	}
	return l
}

// P1, P2: no call panics, and calls that came before, or go on meanwhile, change
// no answer.
func TestSameAgain(t *testing.T) {
	first := outcomes()
	again := make([][]string, 4)
	var wait sync.WaitGroup
	for i := range again {
		wait.Go(func() { again[i] = outcomes() })
	}
	wait.Wait()
	for _, l := range again {
		if !slices.Equal(l, first) {
			t.Error("the same calls have other answers")
		}
	}
}

// The example of README.md.
func TestReadmeExample(t *testing.T) {
	b, e := row.Encode(list(null, whole(-65), text("ab")))
	if string(b) != "\x03\x00\x02\x81\x01\x04\x04ab" || e != api.OK {
		t.Errorf("%q, %d", b, e)
	}
	if l, e := row.Decode(b); !slices.Equal(l, list(null, whole(-65), text("ab"))) || e != api.OK {
		t.Errorf("%v, %d", l, e)
	}
	noRow(t, string(b[:8]))
	if s := row.Short(-65); string(s) != "\x81\x01" {
		t.Errorf("%q", s)
	}
	if n, size, ok := row.Long([]byte("\x81\x01ab")); n != -65 || size != 2 || !ok {
		t.Errorf("%d, %d, %v", n, size, ok)
	}
	noNumber(t, "\x81\x00")
}
