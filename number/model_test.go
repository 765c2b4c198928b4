package number_test

import (
	"math"
	"math/big"
	"math/rand/v2"
	"slices"
	"strings"
	"testing"

	"frankpledge/api"
	"frankpledge/fault"
)

const (
	most  = math.MaxInt64
	least = math.MinInt64
)

var (
	null = api.Value{}
	no   = api.Value{Kind: api.Bool}
	yes  = api.Value{Kind: api.Bool, N: 1}
)

func whole(n int64) api.Value   { return api.Value{Kind: api.Int, N: n} }
func decimal(n int64) api.Value { return api.Value{Kind: api.Dec, N: n} }
func text(s string) api.Value   { return api.Value{Kind: api.Text, S: s} }
func bytes(s string) api.Value  { return api.Value{Kind: api.Bytes, S: s} }

// arithmetic, comparisons and strangers are all ops, and what is no op.
func arithmetic() []api.Op  { return []api.Op{api.Add, api.Sub, api.Mul, api.Div} }
func comparisons() []api.Op { return []api.Op{api.Eq, api.Ne, api.Lt, api.Le, api.Gt, api.Ge} }
func strangers() []api.Op {
	return []api.Op{api.NoOp, api.Lit, api.Col, api.Neg, api.And, api.Or, api.Not, api.IsNull, api.Count, api.Sum, api.Min, api.Max, -1, 22, math.MaxInt, math.MinInt}
}

// invalid values: each has something in it that its kind rules out.
func invalid() []api.Value {
	return []api.Value{
		{Kind: api.Null, N: 1}, {Kind: api.Null, S: "a"},
		{Kind: api.Bool, N: 2}, {Kind: api.Bool, N: -1}, {Kind: api.Bool, S: "a"},
		{Kind: api.Int, S: "a"}, {Kind: api.Int, N: 5, S: "5"}, {Kind: api.Dec, S: "a"}, {Kind: api.Dec, N: most, S: "\x00"},
		{Kind: api.Text, N: 1}, text(strings.Repeat("a", api.MaxText+1)),
		{Kind: api.Bytes, N: -1}, bytes(strings.Repeat("a", api.MaxText+1)),
		{Kind: -1}, {Kind: 6}, {Kind: 6, S: "a"}, {Kind: math.MaxInt, N: 1}, {Kind: math.MinInt},
	}
}

// others are valid values that are neither numbers nor Null.
func others() []api.Value {
	return []api.Value{no, yes, text(""), text("1"), text("a"), text("ab"), text("b"), text("\xff"), text(strings.Repeat("a", api.MaxText)), bytes(""), bytes("\x00"), bytes("a"), bytes("\xff")}
}

// edges are numbers about those at which something changes: 0, the powers of
// two and of ten, the greatest ones that are promoted or multiplied.
func edges() []int64 {
	l := []int64{0, 3, 7, 4999, 5000, 5001, 9999, 15000, 20000, 123456789, most / api.Scale, most/api.Scale + 1, least / api.Scale, 3037000499, 3037000500, 303700049997, most - 9999, least + 9999, most / 2, least / 3, most, least}
	for _, i := range []int{1, 2, 4, 8, 15, 31, 32, 33, 49, 50, 51, 61, 62} {
		l = append(l, 1<<i)
	}
	for n := int64(1); n <= most/100; n *= 100 {
		l = append(l, n*10, n*100)
	}
	for _, n := range slices.Clone(l) {
		l = append(l, -n, n-1, n+1)
	}
	slices.Sort(l)
	return slices.Compact(l)
}

// numbers are the edges in both kinds.
func numbers() []api.Value {
	var l []api.Value
	for _, n := range edges() {
		l = append(l, whole(n), decimal(n))
	}
	return l
}

// anyNumber is a number of any size up to 64 bits, of either kind: the same ones in
// each run.
func anyNumber(r *rand.Rand) api.Value {
	return api.Value{Kind: api.Int + api.Kind(r.IntN(2)), N: int64(r.Uint64()) >> r.IntN(64)}
}

// rational is what a number represents.
func rational(v api.Value) *big.Rat {
	r := new(big.Rat).SetInt64(v.N)
	if v.Kind == api.Dec {
		r.Quo(r, big.NewRat(api.Scale, 1))
	}
	return r
}

// inKind is the number of a kind that represents a rational, truncated towards
// 0, if there is one.
func inKind(r *big.Rat, kind api.Kind) (api.Value, bool) {
	r = new(big.Rat).Set(r)
	if kind == api.Dec {
		r.Mul(r, big.NewRat(api.Scale, 1))
	}
	n := new(big.Int).Quo(r.Num(), r.Denom())
	if !n.IsInt64() {
		return null, false
	}
	return api.Value{Kind: kind, N: n.Int64()}, true
}

// model is what Reckon answers for two numbers: the exact result of what they
// represent.
func model(op api.Op, a, b api.Value) (v api.Value, code api.Errno, at int) {
	kind := max(a.Kind, b.Kind)
	if _, ok := inKind(rational(a), kind); !ok {
		return null, api.ErrOverflow, 0
	}
	if _, ok := inKind(rational(b), kind); !ok {
		return null, api.ErrOverflow, 1
	}
	r := new(big.Rat)
	switch op {
	case api.Add:
		r.Add(rational(a), rational(b))
	case api.Sub:
		r.Sub(rational(a), rational(b))
	case api.Mul:
		r.Mul(rational(a), rational(b))
	case api.Div:
		if b.N == 0 {
			return null, api.ErrZero, 1
		}
		r.Quo(rational(a), rational(b))
	}
	if v, ok := inKind(r, kind); ok {
		return v, api.OK, -1
	}
	return null, api.ErrOverflow, 2
}

// answers fails unless a call answers what is wanted and no fault, or, if a code
// is given, just the one fault and nothing beside it.
func answers[T comparable](t *testing.T, got T, e error, want T, code api.Errno, at int, call string, args ...any) {
	t.Helper()
	codes, places := []api.Errno{code}, []int{at}
	if code == api.OK {
		codes, places = nil, nil
	}
	if got != want || !slices.Equal(fault.Codes(e), codes) || !slices.Equal(fault.Places(e), places) {
		t.Errorf("%s of %#v is %#v, %v; not %#v, %d at %d", call, args, got, e, want, code, at)
	}
}
