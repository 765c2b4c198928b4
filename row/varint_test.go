package row_test

import (
	"cmp"
	"math"
	"math/rand/v2"
	"slices"
	"strings"
	"testing"

	"frankpledge/row"
)

// varints are told by hand from the document.
func varints() map[int64]string {
	return map[int64]string{
		0: "\x00", -1: "\x01", 1: "\x02", -2: "\x03", 2: "\x04", 63: "\x7e", -64: "\x7f",
		64: "\x80\x01", -65: "\x81\x01", 65: "\x82\x01", 127: "\xfe\x01", -128: "\xff\x01", 128: "\x80\x02",
		8191: "\xfe\x7f", -8192: "\xff\x7f", 8192: "\x80\x80\x01", -8193: "\x81\x80\x01",
		1 << 34: "\x80\x80\x80\x80\x80\x01", 1<<62 - 1: "\xfe\xff\xff\xff\xff\xff\xff\xff\x7f", -1 << 62: "\xff\xff\xff\xff\xff\xff\xff\xff\x7f",
		1 << 62: "\x80\x80\x80\x80\x80\x80\x80\x80\x80\x01", -1<<62 - 1: "\x81\x80\x80\x80\x80\x80\x80\x80\x80\x01",
		most: "\xfe\xff\xff\xff\xff\xff\xff\xff\xff\x01", least: "\xff\xff\xff\xff\xff\xff\xff\xff\xff\x01",
	}
}

// P5.1 (R2): varints by hand, alone and with bytes behind them.
func TestVarints(t *testing.T) {
	for n, want := range varints() {
		if got := string(row.Short(n)); got != want {
			t.Errorf("Short(%d) = %q, not %q", n, got, want)
		}
		for _, behind := range []string{"", "\x00", "\x01", "\x7f", "\x80", "\xff", "\xff\xff\xff\xff\xff\xff\xff\xff\xff\xff\xff"} {
			if m, size, ok := row.Long([]byte(want + behind)); m != n || size != len(want) || !ok {
				t.Errorf("Long(%q) = %d, %d, %v, not %d, %d", want+behind, m, size, ok, n, len(want))
			}
		}
	}
}

// noNumber fails unless bytes begin with no varint.
func noNumber(t *testing.T, s string) {
	t.Helper()
	if n, size, ok := row.Long([]byte(s)); n != 0 || size != 0 || ok {
		t.Errorf("Long(%.99q) = %d, %d, %v", s, n, size, ok)
	}
}

// P5.1 (R2): what is incomplete.
func TestLongIncomplete(t *testing.T) {
	noNumber(t, "")
	for _, s := range varints() {
		for i := range len(s) {
			noNumber(t, s[:i])
		}
	}
	for _, c := range []string{"\x80", "\x81", "\xfe", "\xff"} {
		for n := range 30 {
			noNumber(t, strings.Repeat(c, n))
		}
	}
}

// P5.1 (R2): what is not as short as possible.
func TestLongNotShort(t *testing.T) {
	for _, head := range []string{"\x80", "\x81", "\xfe", "\xff"} {
		for n := 1; n < 12; n++ {
			noNumber(t, strings.Repeat(head, n)+"\x00")
			noNumber(t, strings.Repeat(head, n)+"\x80\x00\x01")
			noNumber(t, strings.Repeat(head, n)+"\x00\x01\x01")
		}
	}
}

// P5.1 (R2): what is beyond 64 bits.
func TestLongBeyond(t *testing.T) {
	for _, c := range []string{"\x80", "\x81", "\xfe", "\xff"} {
		for last := range 256 {
			nine := strings.Repeat(c, 9) + string([]byte{byte(last)})
			if last == 1 {
				if n, size, ok := row.Long([]byte(nine)); string(row.Short(n)) != nine || size != 10 || !ok {
					t.Errorf("Long(%q) = %d, %d, %v", nine, n, size, ok)
				}
				continue
			}
			noNumber(t, nine)
			noNumber(t, nine+"\x01")
			noNumber(t, nine+"\x00\x01")
		}
		for n := 10; n < 80; n++ {
			for last := range 128 {
				noNumber(t, strings.Repeat(c, n)+string([]byte{byte(last)}))
			}
		}
	}
}

// checkLong fails unless bytes begin with the varint that the document says.
func checkLong(t *testing.T, s string) {
	t.Helper()
	n, size, ok := row.Long([]byte(s))
	if wantN, wantSize, want := begins(s); n != wantN || size != wantSize || ok != want {
		t.Fatalf("Long(%q) = %d, %d, %v, not %d, %d, %v", s, n, size, ok, wantN, wantSize, want)
	}
}

// P5.1 (R2): all short bytes of those that count, alone and at the end of long
// ones.
func TestAllShortVarints(t *testing.T) {
	for _, s := range all("\x00\x01\x02\x7f\x80\x81\xff", 6) {
		checkLong(t, s)
	}
	for _, head := range all("\x80\x81\xff", 5) {
		for _, s := range all("\x00\x01\x02\x03\x7f\x80\xff", 3) {
			checkLong(t, head+"\x80\xff\x80\xff"+s)
			checkLong(t, head+"\xff\x80\x80\x80\x80\xff"+s)
		}
	}
	r := rand.New(rand.NewPCG(7, 8))
	for range 100000 {
		b := make([]byte, r.IntN(12))
		for i := range b {
			b[i] = byte(r.Uint32()) | []byte{0, 128}[r.IntN(2)]
		}
		checkLong(t, string(b))
	}
}

// P5.1 (R2), P5.2: numbers about every power of two, small ones, and any ones,
// there and back.
func TestNumbers(t *testing.T) {
	l := numbers()
	for n := int64(-20000); n <= 20000; n++ {
		l = append(l, n)
	}
	r := rand.New(rand.NewPCG(9, 10))
	for range 50000 {
		l = append(l, int64(r.Uint64())>>r.IntN(64))
	}
	for _, n := range l {
		s := string(row.Short(n))
		if want := varint(n); s != want {
			t.Fatalf("Short(%d) = %q, not %q", n, s, want)
		}
		if m, size, ok := row.Long([]byte(s)); m != n || size != len(s) || !ok {
			t.Fatalf("Long(%q) = %d, %d, %v, not %d", s, m, size, ok, n)
		}
	}
}

// size is a number's absolute value.
func size(n int64) uint64 {
	if n < 0 {
		return -uint64(n)
	}
	return uint64(n)
}

// P5.3: by increasing absolute values, no varint is longer than one that comes
// ahead of the numbers of its own absolute value.
func TestShortness(t *testing.T) {
	l := append(numbers(), most, least)
	for n := int64(-9000); n <= 9000; n++ {
		l = append(l, n)
	}
	slices.SortFunc(l, func(a, b int64) int { return cmp.Compare(size(a), size(b)) })
	below, longest := 0, 0
	for i, n := range l {
		if i > 0 && size(l[i-1]) < size(n) {
			below = longest
		}
		got := len(row.Short(n))
		if got < below {
			t.Fatalf("the varint of %d has %d bytes, and one of less than its size has %d", n, got, below)
		}
		longest = max(longest, got)
	}
	if longest != 10 {
		t.Errorf("the longest varint has %d bytes", longest)
	}
}

// P5.3: each length is that of just the numbers below a power of two.
func TestLengths(t *testing.T) {
	if got := len(row.Short(0)); got != 1 {
		t.Errorf("the varint of 0 has %d bytes", got)
	}
	for n := 1; n < 10; n++ {
		edge := int64(1) << (7*n - 1)
		for m, want := range map[int64]int{edge - 1: n, -edge: n, edge: n + 1, -edge - 1: n + 1} {
			if got := len(row.Short(m)); got != want {
				t.Errorf("the varint of %d has %d bytes, not %d", m, got, want)
			}
		}
	}
	for _, n := range []int64{math.MaxInt64, math.MinInt64} {
		if got := len(row.Short(n)); got != 10 {
			t.Errorf("the varint of %d has %d bytes", n, got)
		}
	}
}
