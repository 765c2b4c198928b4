package key_test

import (
	"bytes"
	"fmt"
	"math/rand/v2"
	"regexp"
	"slices"
	"strings"
	"sync"
	"testing"
	"unsafe"

	"frankpledge/api"
	"frankpledge/key"
	"frankpledge/value"
)

// P4.1 (K1): encodings by hand.
func TestEncode(t *testing.T) {
	for _, x := range examples() {
		if got := encoded(t, x.key); got != x.code {
			t.Errorf("Encode(%v) = %q, not %q", x.key, got, x.code)
		}
	}
}

// P4.1 (K1): what is no key: a value that is not valid, wherever it stands.
func TestEncodeInvalid(t *testing.T) {
	for _, w := range invalid() {
		for n := 1; n <= api.MaxValues; n++ {
			for i := range n {
				l := nulls(n)
				l[i] = w
				if b, e := key.Encode(l); e != api.ErrKey || len(b) != 0 {
					t.Errorf("Encode of a list with %v at %d of %d = %q, %d", w, i, n, b, e)
				}
			}
		}
	}
}

// P4.1 (K1): the greatest count of values, and one more.
func TestEncodeLimit(t *testing.T) {
	for _, v := range some() {
		l := slices.Repeat(list(v), api.MaxValues)
		s := encoded(t, list(v))
		if got := encoded(t, l); got != strings.Repeat(s, api.MaxValues) {
			t.Errorf("Encode of 16 times %v = %q", v, got)
		}
		for _, n := range []int{1, 2, 100} {
			if b, e := key.Encode(append(l, nulls(n)...)); e != api.ErrKey || len(b) != 0 {
				t.Errorf("Encode of 16 times %v and %d more = %q, %d", v, n, b, e)
			}
		}
	}
}

// P4.1 (K1): keys by hand.
func TestDecode(t *testing.T) {
	for _, x := range examples() {
		if l, e := key.Decode([]byte(x.code)); e != api.OK || !slices.Equal(l, x.key) {
			t.Errorf("Decode(%q) = %v, %d, not %v", x.code, l, e, x.key)
		}
	}
	if l, e := key.Decode(nil); e != api.OK || len(l) != 0 {
		t.Errorf("Decode(nil) = %v, %d", l, e)
	}
}

// P4.1 (K1): bytes that are no key's encoding.
func TestDecodeFaults(t *testing.T) {
	long, zeros := strings.Repeat("a", api.MaxText+1), strings.Repeat("\x00\xff", api.MaxText+1)
	for _, head := range []string{"", "\x00", "\x01\x01", "\x02\x80\x00\x00\x00\x00\x00\x00\x00", "\x04a\x00\x01", "\x05\x00\xff\x00\x01"} {
		for kind := range 250 {
			noKey(t, head+string([]byte{byte(kind + 6)}))
		}
		for truth := range 254 {
			noKey(t, head+"\x01"+string([]byte{byte(truth + 2)}))
		}
		for _, kind := range []string{"\x04", "\x05"} {
			for c := range 253 {
				noKey(t, head+kind+"\x00"+string([]byte{byte(c + 2)}))
				noKey(t, head+kind+"a\x00"+string([]byte{byte(c + 2)})+"\x00\x01")
			}
			for _, s := range []string{"", "a", "\x00", "a\x00", "\x00\x00", "\x00\x00\x01", "a\x00\x00\x01", "\x00\xff", "\x00\xff\x00", "\x01", "\x01\x00", "\xff", "\xff\xff", "\xff\x01", "a\x00b\x00\x01", long + "\x00\x01", long, zeros + "\x00\x01", zeros} {
				noKey(t, head+kind+s)
			}
			noKey(t, head+kind+"a\x00\x01\x06")
			noKey(t, head+kind+"a\x00\x01\x01")
			noKey(t, head+kind+"a\x00\x01\xff")
		}
	}
	for _, x := range examples()[1:] {
		noKey(t, x.code+strings.Repeat("\x00", api.MaxValues+1-len(x.key)))
		noKey(t, strings.Repeat("\x04\x00\x01", api.MaxValues)+x.code)
	}
}

// P4.1 (K1): an encoding that is cut short is that of a shorter key, or none.
func TestDecodeCut(t *testing.T) {
	for _, x := range examples() {
		ends := map[int]int{}
		for n := range x.key {
			ends[len(encoded(t, x.key[:n]))] = n
		}
		for i := range len(x.code) {
			n, ok := ends[i]
			if !ok {
				noKey(t, x.code[:i])
				continue
			}
			if l, e := key.Decode([]byte(x.code[:i])); e != api.OK || !slices.Equal(l, x.key[:n]) {
				t.Errorf("Decode(%q) = %v, %d, not %v", x.code[:i], l, e, x.key[:n])
			}
		}
	}
}

// form is what the document says of encodings, but for the limits.
var form = regexp.MustCompile(`^(00|010[01]|0[23].{16}|0[45](0[1-9a-f]|[1-9a-f].|00ff)*0001)*$`)

// checkForm fails unless bytes are decoded just if they are of the document's
// form, and then as a key that has this encoding.
func checkForm(t *testing.T, s string) bool {
	t.Helper()
	l, e := key.Decode([]byte(s))
	if want := form.MatchString(fmt.Sprintf("%x", s)); (e == api.OK) != want {
		t.Fatalf("Decode(%q) = %v, %d", s, l, e)
	}
	if e == api.OK && encoded(t, l) != s {
		t.Fatalf("%q is decoded as %v, whose encoding is %q", s, l, encoded(t, l))
	}
	if e != api.OK && (e != api.ErrKey || len(l) != 0) {
		t.Fatalf("Decode(%q) = %v, %d", s, l, e)
	}
	return e == api.OK
}

// P4.1 (K1), P4.3: of all short bytes of those that count, just those of the
// document's form are decoded.
func TestAllShortCodes(t *testing.T) {
	decoded := 0
	for _, s := range all("\x00\x01\x02\x04\x05\x06\xff", 7) {
		if checkForm(t, s) {
			decoded++
		}
	}
	for _, head := range []string{"\x02", "\x03", "\x00\x03", "\x04\x00\x01\x02"} {
		for _, s := range all("\x00\x80\xff", 9) {
			if checkForm(t, head+s) {
				decoded++
			}
		}
	}
	if decoded < 10000 {
		t.Errorf("only %d are decoded", decoded)
	}
}

// P4.1 (K1), P4.3: encodings with one byte changed, added or left out.
func TestNearCodes(t *testing.T) {
	for _, x := range examples() {
		if len(x.code) > 50 || len(x.key) == api.MaxValues {
			continue
		}
		for i := range len(x.code) + 1 {
			for c := range 256 {
				put := string([]byte{byte(c)})
				checkForm(t, x.code[:i]+put+x.code[i:])
				if i < len(x.code) {
					checkForm(t, x.code[:i]+put+x.code[i+1:])
				}
			}
			if i < len(x.code) {
				checkForm(t, x.code[:i]+x.code[i+1:])
			}
		}
	}
}

// sameOrder fails unless two keys' encodings are ordered as the keys are.
func sameOrder(t *testing.T, a, b []api.Value) {
	t.Helper()
	if got, want := strings.Compare(encoded(t, a), encoded(t, b)), value.Rows(a, b); got != want {
		t.Fatalf("the encodings of %v and %v: %d, not %d", a, b, got, want)
	}
}

// P4.2: any two of many keys, and of keys that have a head in common.
func TestOrder(t *testing.T) {
	for _, a := range keys() {
		for _, b := range keys() {
			sameOrder(t, a, b)
		}
	}
	r := rand.New(rand.NewPCG(1, 2))
	for range 20000 {
		a, b := anyKey(r), anyKey(r)
		sameOrder(t, a, b)
		n := r.IntN(min(len(a), len(b)) + 1)
		sameOrder(t, a, slices.Concat(a[:n], b[n:]))
	}
}

// P4.2: all short texts of the bytes that count.
func TestOrderTexts(t *testing.T) {
	l := all("\x00\x01\x02\xfe\xff", 4)
	for _, a := range l {
		for _, b := range l {
			if x, y := encoded(t, list(text(a), yes)), encoded(t, list(text(b), no)); strings.Compare(x, y) != value.Rows(list(text(a), yes), list(text(b), no)) {
				t.Fatalf("%q and %q: %q and %q", a, b, x, y)
			}
		}
	}
}

// P4.3: Decode inverts Encode.
func TestInverse(t *testing.T) {
	r := rand.New(rand.NewPCG(3, 4))
	l := keys()
	for range 20000 {
		l = append(l, anyKey(r))
	}
	for c := range 256 {
		for _, n := range []int{1, 2, api.MaxText - 1, api.MaxText} {
			s := strings.Repeat(string([]byte{byte(c)}), n)
			l = append(l, list(text(s)), list(blob(s)), slices.Repeat(list(text(s)), api.MaxValues))
		}
	}
	for i := range 64 {
		for d := int64(-2); d <= 2; d++ {
			l = append(l, list(whole(1<<i+d), decimal(1<<i+d)), list(whole(-1<<i+d), decimal(-1<<i+d)))
		}
	}
	for _, a := range l {
		s := encoded(t, a)
		if b, e := key.Decode([]byte(s)); e != api.OK || !slices.Equal(a, b) {
			t.Fatalf("the encoding %q of %v is decoded as %v, %d", s, a, b, e)
		}
	}
}

// begins tells whether a list begins with another one.
func begins(l, head []api.Value) bool {
	return len(l) >= len(head) && slices.Equal(l[:len(head)], head)
}

// P4.4: the encoding of a key that is a prefix is a prefix, and no other one
// is; so the keys with a prefix are those from its encoding up to the next
// bytes.
func TestPrefixes(t *testing.T) {
	for _, a := range keys() {
		s := encoded(t, a)
		next := string(key.Next([]byte(s)))
		for _, b := range keys() {
			want, x := begins(b, a), encoded(t, b)
			if strings.HasPrefix(x, s) != want {
				t.Fatalf("%v begins with %v, but %q and %q", b, a, x, s)
			}
			if within := x >= s && (x < next || len(a) == 0); within != want {
				t.Fatalf("%v begins with %v, but %q lies between %q and %q", b, a, x, s, next)
			}
		}
	}
	r := rand.New(rand.NewPCG(5, 6))
	for range 5000 {
		l := anyKey(r)
		s := encoded(t, l)
		for n := range l {
			if !strings.HasPrefix(s, encoded(t, l[:n])) {
				t.Fatalf("%v: %q", l, s)
			}
		}
	}
}

// P4.1 (K2): Next by hand.
func TestNext(t *testing.T) {
	for _, x := range []struct{ b, want string }{
		{"\x00", "\x01"}, {"\x01", "\x02"}, {"a", "b"}, {"\x7f", "\x80"}, {"\xfd", "\xfe"}, {"\xfe", "\xff"},
		{"a\x00", "a\x01"}, {"ab", "ac"}, {"\xffa", "\xffb"}, {"\x00\xfe", "\x00\xff"},
		{"\x01\xff", "\x02"}, {"a\xff\xff", "b"}, {"\xfe\xff", "\xff"}, {"\x00\xff", "\x01"}, {"\x00\x00\xff\xff\xff", "\x00\x01"},
		{"\xff\x00", "\xff\x01"}, {"\xff\x00\xff", "\xff\x01"}, {"\xffa\xff\xff", "\xffb"}, {"a\xffb\xff", "a\xffc"},
		{"\x80\xff", "\x81"}, {"\xc3\xff", "\xc4"}, {"\xc3\xa9", "\xc3\xaa"}, {"\xef\xbf\xbd", "\xef\xbf\xbe"}, {"\xef\xbf\xbd\xff", "\xef\xbf\xbe"},
	} {
		if got := key.Next([]byte(x.b)); string(got) != x.want {
			t.Errorf("Next(%q) = %q, not %q", x.b, got, x.want)
		}
	}
	for _, n := range []int{0, 1, 2, 3, 100, 1 << 20} {
		if got := key.Next(bytes.Repeat([]byte{255}, n)); got != nil {
			t.Errorf("Next of %d times 255 = %q", n, got)
		}
	}
	if got := key.Next(nil); got != nil {
		t.Errorf("Next(nil) = %q", got)
	}
}

// P4.1 (K2): of all short bytes, just those that come ahead of b or begin with
// it are less than Next(b); if there is none, there are no others.
func TestNextLeast(t *testing.T) {
	l := all("\x00\x01\x7f\xfe\xff", 4)
	for _, b := range l {
		next := key.Next([]byte(b))
		for _, s := range l {
			want := s < b || strings.HasPrefix(s, b)
			if less := next == nil || s < string(next); less != want {
				t.Fatalf("Next(%q) = %q, and %q", b, next, s)
			}
		}
	}
}

// room is a copy of a list in memory that has more of it behind its end.
func room[T any](l []T, behind T) []T {
	return append(append(make([]T, 0, len(l)+3), l...), behind, behind, behind)[:len(l)]
}

// Rule 4: arguments are neither changed nor read behind their end.
func TestArguments(t *testing.T) {
	for _, x := range examples() {
		l := room(x.key, api.Value{Kind: 9})
		if b, e := key.Encode(l); e != api.OK || string(b) != x.code {
			t.Errorf("Encode(%v) = %q, %d", l, b, e)
		}
		if full := l[:cap(l)]; !slices.Equal(full[:len(l)], x.key) || full[len(l)] != (api.Value{Kind: 9}) {
			t.Errorf("Encode changes %v", x.key)
		}
		for _, behind := range []byte{0, 1, 255} {
			b := room([]byte(x.code), behind)
			if l, e := key.Decode(b); e != api.OK || !slices.Equal(l, x.key) {
				t.Errorf("Decode(%q) = %v, %d", b, l, e)
			}
			if next := key.Next(b); !bytes.Equal(next, key.Next([]byte(x.code))) {
				t.Errorf("Next(%q) = %q", b, next)
			}
			if full := b[:cap(b)]; string(full[:len(b)]) != x.code || full[len(b)] != behind {
				t.Errorf("%q is changed", x.code)
			}
		}
	}
}

// within tells whether memory of a result lies in that of an argument.
func within(at *byte, of []byte) bool {
	from := uintptr(unsafe.Pointer(unsafe.SliceData(of)))
	return at != nil && uintptr(unsafe.Pointer(at)) >= from && uintptr(unsafe.Pointer(at)) < from+uintptr(cap(of))
}

// Rule 4: results are new memory.
func TestNewMemory(t *testing.T) {
	for _, s := range []string{"\x04abc\x00\x01", "\x05a\x00\xffb\x00\x01\x04c\x00\x01"} {
		b := []byte(s)
		l, e := key.Decode(b)
		next := key.Next(b)
		for _, v := range l {
			if e != api.OK || within(unsafe.StringData(v.S), b) {
				t.Errorf("Decode(%q) keeps its argument (%d)", s, e)
			}
		}
		if within(unsafe.SliceData(next), b) {
			t.Errorf("Next(%q) keeps its argument", s)
		}
		clear(b)
		if x, e := key.Encode(l); e != api.OK || string(x) != s {
			t.Errorf("%q is changed to %q afterwards", s, x)
		}
	}
}

// P1: bytes and lists without an end of any use are refused in time.
func TestLong(t *testing.T) {
	const n = 1 << 22
	for _, s := range []string{strings.Repeat("\x00", n), strings.Repeat("\x01", n), "\x02" + strings.Repeat("\x00", n), "\x04" + strings.Repeat("a", n), "\x05" + strings.Repeat("\x00\xff", n), "\x04" + strings.Repeat("\x00\xff", n) + "\x00\x01", strings.Repeat("\x04\x00\x01", n), strings.Repeat("\xff", n)} {
		noKey(t, s)
	}
	if b, e := key.Encode(nulls(n)); e != api.ErrKey || len(b) != 0 {
		t.Errorf("Encode of a long list: %d bytes, %d", len(b), e)
	}
}

// outcomes are those of calls with right and wrong arguments, as text.
func outcomes() []string {
	var l []string
	for _, a := range append(keys(), invalid()) {
		b, e := key.Encode(a)
		back, wrong := key.Decode(b)
		l = append(l, fmt.Sprint(b, e, back, wrong, key.Next(b)))
	}
	for _, s := range all("\x00\x01\x04\x07\xff", 5) {
		a, e := key.Decode([]byte(s))
		l = append(l, fmt.Sprint(a, e, key.Next([]byte(s))))
	}
	return l
}

// P1, P2: no call panics, and calls that came before, or go on meanwhile, change
// no answer.
func TestSameAgain(t *testing.T) {
	first := outcomes()
	again := make([][]string, 4)
	var wait sync.WaitGroup
	for i := range again {
		wait.Go(func() { again[i] = outcomes() })
	}
	wait.Wait()
	for _, l := range again {
		if !slices.Equal(l, first) {
			t.Error("the same calls have other answers")
		}
	}
}

// The example of README.md.
func TestReadmeExample(t *testing.T) {
	b, e := key.Encode(list(yes, text("a\x00")))
	if string(b) != "\x01\x01\x04a\x00\xff\x00\x01" || e != api.OK {
		t.Errorf("%q, %d", b, e)
	}
	if l, e := key.Decode(b); !slices.Equal(l, list(yes, text("a\x00"))) || e != api.OK {
		t.Errorf("%v, %d", l, e)
	}
	noKey(t, "\x06")
	if next := key.Next([]byte("\x01\xff\xff")); string(next) != "\x02" {
		t.Errorf("%q", next)
	}
}
