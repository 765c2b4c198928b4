package row_test

import (
	"math"
	"math/big"
	"math/rand/v2"
	"slices"
	"strings"
	"testing"

	"frankpledge/api"
	"frankpledge/row"
)

const (
	most  = math.MaxInt64
	least = math.MinInt64
)

var (
	null = api.Value{}
	no   = api.Value{Kind: api.Bool}
	yes  = api.Value{Kind: api.Bool, N: 1}
)

func whole(n int64) api.Value   { return api.Value{Kind: api.Int, N: n} }
func decimal(n int64) api.Value { return api.Value{Kind: api.Dec, N: n} }
func text(s string) api.Value   { return api.Value{Kind: api.Text, S: s} }
func blob(s string) api.Value   { return api.Value{Kind: api.Bytes, S: s} }

// list is a row of some values.
func list(l ...api.Value) []api.Value { return l }

// nulls is a list of so many Nulls.
func nulls(n int) []api.Value { return make([]api.Value, n) }

// example is a row and its encoding.
type example struct {
	row  []api.Value
	code string
}

// examples are told by hand from the document, of every kind, with the edges.
func examples() []example {
	long := func(s string, n int) string { return strings.Repeat(s, n) }
	return []example{
		{nil, "\x00"},
		{list(null), "\x01\x00"},
		{list(null, null), "\x02\x00\x00"},
		{nulls(api.MaxValues), "\x10" + long("\x00", api.MaxValues)},
		{list(no), "\x01\x01\x00"},
		{list(yes), "\x01\x01\x01"},
		{list(whole(0)), "\x01\x02\x00"},
		{list(whole(-1)), "\x01\x02\x01"},
		{list(whole(1)), "\x01\x02\x02"},
		{list(whole(63)), "\x01\x02\x7e"},
		{list(whole(-64)), "\x01\x02\x7f"},
		{list(whole(64)), "\x01\x02\x80\x01"},
		{list(whole(-65)), "\x01\x02\x81\x01"},
		{list(whole(8191)), "\x01\x02\xfe\x7f"},
		{list(whole(-8193)), "\x01\x02\x81\x80\x01"},
		{list(whole(most)), "\x01\x02\xfe\xff\xff\xff\xff\xff\xff\xff\xff\x01"},
		{list(whole(least)), "\x01\x02\xff\xff\xff\xff\xff\xff\xff\xff\xff\x01"},
		{list(decimal(0)), "\x01\x03\x00"},
		{list(decimal(-10000)), "\x01\x03\x9f\x9c\x01"},
		{list(decimal(15000)), "\x01\x03\xb0\xea\x01"},
		{list(decimal(most)), "\x01\x03\xfe\xff\xff\xff\xff\xff\xff\xff\xff\x01"},
		{list(decimal(least)), "\x01\x03\xff\xff\xff\xff\xff\xff\xff\xff\xff\x01"},
		{list(text("")), "\x01\x04\x00"},
		{list(text("\x00")), "\x01\x04\x02\x00"},
		{list(text("\xff\x80")), "\x01\x04\x04\xff\x80"},
		{list(text("it's")), "\x01\x04\x08it's"},
		{list(text("é")), "\x01\x04\x04\xc3\xa9"},
		{list(text(long("a", 63))), "\x01\x04\x7e" + long("a", 63)},
		{list(text(long("a", 64))), "\x01\x04\x80\x01" + long("a", 64)},
		{list(text(long("a", api.MaxText))), "\x01\x04\x90\x03" + long("a", api.MaxText)},
		{list(blob("")), "\x01\x05\x00"},
		{list(blob("\x00\xff\x01")), "\x01\x05\x06\x00\xff\x01"},
		{list(blob(long("\xff", api.MaxText))), "\x01\x05\x90\x03" + long("\xff", api.MaxText)},
		{list(text(""), null, text("")), "\x03\x04\x00\x00\x04\x00"},
		{list(yes, whole(2), decimal(-1), text("a"), blob("bc"), null), "\x06\x01\x01\x02\x04\x03\x01\x04\x02a\x05\x04bc\x00"},
	}
}

// invalid values: each has something in it that its kind rules out.
func invalid() []api.Value {
	long := strings.Repeat("a", api.MaxText+1)
	return []api.Value{
		{Kind: api.Null, N: 1}, {Kind: api.Null, N: -1}, {Kind: api.Null, S: "a"}, {Kind: api.Null, S: "\x00"},
		{Kind: api.Bool, N: 2}, {Kind: api.Bool, N: 256}, {Kind: api.Bool, N: 257}, {Kind: api.Bool, N: -1}, {Kind: api.Bool, N: least}, {Kind: api.Bool, S: "a"},
		{Kind: api.Int, S: "a"}, {Kind: api.Int, N: 5, S: "5"}, {Kind: api.Dec, S: "a"}, {Kind: api.Dec, N: most, S: "\x00"},
		{Kind: api.Text, N: 1}, {Kind: api.Text, N: -1, S: "a"}, text(long), text(strings.Repeat("\x00", 1<<20)),
		{Kind: api.Bytes, N: 1}, {Kind: api.Bytes, N: most, S: "a"}, blob(long), blob(strings.Repeat("\x00", 1<<20)),
		{Kind: -1}, {Kind: 6}, {Kind: 6, S: "a"}, {Kind: 256}, {Kind: 258, N: 1}, {Kind: 260, S: "a"}, {Kind: math.MaxInt, N: 1}, {Kind: math.MinInt},
	}
}

// numbers are those about every power of two, on both sides of 0.
func numbers() []int64 {
	var l []int64
	for i := range 64 {
		for d := int64(-3); d <= 3; d++ {
			l = append(l, 1<<i+d, -1<<i+d, (1<<i+d)*7)
		}
	}
	return l
}

// anyValue is a valid value: the same ones in each run.
func anyValue(r *rand.Rand) api.Value {
	v := api.Value{Kind: api.Kind(r.IntN(6))}
	switch v.Kind {
	case api.Bool:
		v.N = int64(r.IntN(2))
	case api.Int, api.Dec:
		v.N = int64(r.Uint64()) >> r.IntN(64)
	case api.Text, api.Bytes:
		b := make([]byte, r.IntN([]int{5, api.MaxText + 1}[r.IntN(2)]))
		for i := range b {
			b[i] = byte(r.Uint32())
		}
		v.S = string(b)
	}
	return v
}

// anyRow is a row of any length.
func anyRow(r *rand.Rand) []api.Value {
	l := nulls(r.IntN(api.MaxValues + 1))
	for i := range l {
		l[i] = anyValue(r)
	}
	return l
}

// all are the strings over an alphabet, of all lengths up to the most.
func all(alphabet string, most int) []string {
	l := []string{""}
	from := 0
	for range most {
		level := l[from:]
		from = len(l)
		for _, s := range level {
			for _, c := range []byte(alphabet) {
				l = append(l, s+string([]byte{c}))
			}
		}
	}
	return l
}

// digits are what the document says of the varint of a number u, by dividing
// numbers of any size.
func digits(u *big.Int) string {
	var s []byte
	rest, digit := new(big.Int).Set(u), new(big.Int)
	for {
		rest.DivMod(rest, big.NewInt(128), digit)
		c := byte(digit.Int64())
		if rest.Sign() == 0 {
			return string(append(s, c))
		}
		s = append(s, c+128)
	}
}

// varint is that of a number, as the document says it.
func varint(n int64) string {
	u := new(big.Int).Mul(big.NewInt(n), big.NewInt(2))
	if n < 0 {
		u.Neg(u).Sub(u, big.NewInt(1))
	}
	return digits(u)
}

// begins is the number whose varint a string begins with, as the document says
// it: 7 bits a byte up to the first byte below 128, told again the same way.
func begins(s string) (int64, int, bool) {
	size := slices.IndexFunc([]byte(s), func(c byte) bool { return c < 128 }) + 1
	u := new(big.Int)
	for i := size - 1; i >= 0; i-- {
		u.Mul(u, big.NewInt(128)).Add(u, big.NewInt(int64(s[i]%128)))
	}
	if size == 0 || digits(u) != s[:size] || u.BitLen() > 64 {
		return 0, 0, false
	}
	n := new(big.Int).Rsh(u, 1)
	if u.Bit(0) == 1 {
		n.Add(n, big.NewInt(1)).Neg(n)
	}
	return n.Int64(), size, true
}

// encoded is a row's encoding, which it has.
func encoded(t *testing.T, l []api.Value) string {
	t.Helper()
	b, e := row.Encode(l)
	if e != api.OK {
		t.Fatalf("Encode(%v): error %d", l, e)
	}
	return string(b)
}

// noRow fails unless bytes are no row's encoding.
func noRow(t *testing.T, s string) {
	t.Helper()
	if l, e := row.Decode([]byte(s)); e != api.ErrRow || len(l) != 0 {
		t.Errorf("Decode(%.99q) = %v, %d, not ErrRow alone", s, l, e)
	}
}
