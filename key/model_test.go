package key_test

import (
	"math"
	"math/rand/v2"
	"strings"
	"testing"

	"frankpledge/api"
	"frankpledge/key"
)

const (
	most  = math.MaxInt64
	least = math.MinInt64
)

var (
	null = api.Value{}
	no   = api.Value{Kind: api.Bool}
	yes  = api.Value{Kind: api.Bool, N: 1}
)

func whole(n int64) api.Value   { return api.Value{Kind: api.Int, N: n} }
func decimal(n int64) api.Value { return api.Value{Kind: api.Dec, N: n} }
func text(s string) api.Value   { return api.Value{Kind: api.Text, S: s} }
func blob(s string) api.Value   { return api.Value{Kind: api.Bytes, S: s} }

// list is a key of some values.
func list(l ...api.Value) []api.Value { return l }

// nulls is a list of so many Nulls.
func nulls(n int) []api.Value { return make([]api.Value, n) }

// example is a key and its encoding.
type example struct {
	key  []api.Value
	code string
}

// examples are told by hand from the document, of every kind, with the edges.
func examples() []example {
	return []example{
		{nil, ""},
		{list(null), "\x00"},
		{list(null, null), "\x00\x00"},
		{nulls(api.MaxValues), strings.Repeat("\x00", api.MaxValues)},
		{list(no), "\x01\x00"},
		{list(yes), "\x01\x01"},
		{list(whole(least)), "\x02\x00\x00\x00\x00\x00\x00\x00\x00"},
		{list(whole(-256)), "\x02\x7f\xff\xff\xff\xff\xff\xff\x00"},
		{list(whole(-1)), "\x02\x7f\xff\xff\xff\xff\xff\xff\xff"},
		{list(whole(0)), "\x02\x80\x00\x00\x00\x00\x00\x00\x00"},
		{list(whole(1)), "\x02\x80\x00\x00\x00\x00\x00\x00\x01"},
		{list(whole(0x0123456789abcdef)), "\x02\x81\x23\x45\x67\x89\xab\xcd\xef"},
		{list(whole(most)), "\x02\xff\xff\xff\xff\xff\xff\xff\xff"},
		{list(decimal(least)), "\x03\x00\x00\x00\x00\x00\x00\x00\x00"},
		{list(decimal(-10000)), "\x03\x7f\xff\xff\xff\xff\xff\xd8\xf0"},
		{list(decimal(0)), "\x03\x80\x00\x00\x00\x00\x00\x00\x00"},
		{list(decimal(15000)), "\x03\x80\x00\x00\x00\x00\x00\x3a\x98"},
		{list(decimal(most)), "\x03\xff\xff\xff\xff\xff\xff\xff\xff"},
		{list(text("")), "\x04\x00\x01"},
		{list(text("\x00")), "\x04\x00\xff\x00\x01"},
		{list(text("\x01")), "\x04\x01\x00\x01"},
		{list(text("\xff")), "\x04\xff\x00\x01"},
		{list(text("\x00\x00")), "\x04\x00\xff\x00\xff\x00\x01"},
		{list(text("\x00\x01")), "\x04\x00\xff\x01\x00\x01"},
		{list(text("\x00\xff")), "\x04\x00\xff\xff\x00\x01"},
		{list(text("\xff\x00")), "\x04\xff\x00\xff\x00\x01"},
		{list(text("a\x00b")), "\x04a\x00\xffb\x00\x01"},
		{list(text("it's")), "\x04it's\x00\x01"},
		{list(text("é")), "\x04\xc3\xa9\x00\x01"},
		{list(text(strings.Repeat("a", api.MaxText))), "\x04" + strings.Repeat("a", api.MaxText) + "\x00\x01"},
		{list(text(strings.Repeat("\x00", api.MaxText))), "\x04" + strings.Repeat("\x00\xff", api.MaxText) + "\x00\x01"},
		{list(blob("")), "\x05\x00\x01"},
		{list(blob("\x00\xff\x01")), "\x05\x00\xff\xff\x01\x00\x01"},
		{list(blob(strings.Repeat("\xff", api.MaxText))), "\x05" + strings.Repeat("\xff", api.MaxText) + "\x00\x01"},
		{list(text(""), null, text("")), "\x04\x00\x01\x00\x04\x00\x01"},
		{list(yes, whole(2), decimal(-1), text("a"), blob("b"), null), "\x01\x01\x02\x80\x00\x00\x00\x00\x00\x00\x02\x03\x7f\xff\xff\xff\xff\xff\xff\xff\x04a\x00\x01\x05b\x00\x01\x00"},
	}
}

// invalid values: each has something in it that its kind rules out.
func invalid() []api.Value {
	long := strings.Repeat("a", api.MaxText+1)
	return []api.Value{
		{Kind: api.Null, N: 1}, {Kind: api.Null, N: -1}, {Kind: api.Null, S: "a"}, {Kind: api.Null, S: "\x00"},
		{Kind: api.Bool, N: 2}, {Kind: api.Bool, N: 256}, {Kind: api.Bool, N: 257}, {Kind: api.Bool, N: -1}, {Kind: api.Bool, N: least}, {Kind: api.Bool, S: "a"},
		{Kind: api.Int, S: "a"}, {Kind: api.Int, N: 5, S: "5"}, {Kind: api.Dec, S: "a"}, {Kind: api.Dec, N: most, S: "\x00"},
		{Kind: api.Text, N: 1}, {Kind: api.Text, N: -1, S: "a"}, text(long), text(strings.Repeat("\x00", api.MaxText+1)),
		{Kind: api.Bytes, N: 1}, {Kind: api.Bytes, N: most, S: "a"}, blob(long), blob(strings.Repeat("\x00", 1<<20)),
		{Kind: -1}, {Kind: 6}, {Kind: 6, S: "a"}, {Kind: 256}, {Kind: 258, N: 1}, {Kind: 260, S: "a"}, {Kind: math.MaxInt, N: 1}, {Kind: math.MinInt},
	}
}

// some are valid values that are near each other, by kind, number and bytes.
func some() []api.Value {
	l := list(null, no, yes)
	for _, n := range []int64{least, least + 1, -1 << 32, -257, -256, -255, -2, -1, 0, 1, 2, 127, 128, 255, 256, 257, 65535, 65536, 1 << 32, most - 1, most} {
		l = append(l, whole(n), decimal(n))
	}
	long := strings.Repeat("a", api.MaxText-1)
	for _, s := range []string{"", "\x00", "\x00\x00", "\x00\x01", "\x00\x02", "\x00\xff", "\x01", "\x01\x00", "\x02", "\x7f", "\xfe", "\xff", "\xff\x00", "\xff\xff", "a", "a\x00", "a\x00\x00", "a\x00\x01", "a\x00\xff", "a\x01", "a\xff", "ab", "b", long, long + "\x00", long + "a", long + "\xff"} {
		l = append(l, text(s), blob(s))
	}
	return l
}

// keys are those of up to two of some values, with one more at the end.
func keys() [][]api.Value {
	all := [][]api.Value{nil}
	for _, v := range some() {
		all = append(all, list(v))
	}
	few := list(null, no, yes, whole(-1), whole(0), whole(255), decimal(0), text(""), text("\x00"), text("a"), blob(""), blob("\xff"))
	for _, a := range few {
		for _, b := range few {
			all = append(all, list(a, b), list(a, b, null), list(a, b, text("")))
		}
	}
	return all
}

// anyValue is a valid value whose bytes are such that ends and zeros meet: the
// same ones in each run.
func anyValue(r *rand.Rand) api.Value {
	v := api.Value{Kind: api.Kind(r.IntN(6))}
	switch v.Kind {
	case api.Bool:
		v.N = int64(r.IntN(2))
	case api.Int, api.Dec:
		v.N = int64(r.Uint64()) >> r.IntN(64)
	case api.Text, api.Bytes:
		b := make([]byte, r.IntN(5))
		for i := range b {
			b[i] = "\x00\x01\x02\x04\x05a\xfe\xff"[r.IntN(8)]
		}
		v.S = string(b)
	}
	return v
}

// anyKey is a key of any length.
func anyKey(r *rand.Rand) []api.Value {
	l := nulls(r.IntN(api.MaxValues + 1))
	for i := range l {
		l[i] = anyValue(r)
	}
	return l
}

// strings over an alphabet, of all lengths up to the most.
func all(alphabet string, most int) []string {
	l := []string{""}
	from := 0
	for range most {
		level := l[from:]
		from = len(l)
		for _, s := range level {
			for _, c := range []byte(alphabet) {
				l = append(l, s+string([]byte{c}))
			}
		}
	}
	return l
}

// encoded is a key's encoding, which it has.
func encoded(t *testing.T, l []api.Value) string {
	t.Helper()
	b, e := key.Encode(l)
	if e != api.OK {
		t.Fatalf("Encode(%v): error %d", l, e)
	}
	return string(b)
}

// noKey fails unless bytes are no key's encoding.
func noKey(t *testing.T, s string) {
	t.Helper()
	if l, e := key.Decode([]byte(s)); e != api.ErrKey || len(l) != 0 {
		t.Errorf("Decode(%q) = %v, %d, not ErrKey alone", s, l, e)
	}
}
