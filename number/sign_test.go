package number_test

import (
	"cmp"
	"math/rand/v2"
	"slices"
	"testing"

	"frankpledge/api"
	"frankpledge/number"
)

// signs fails unless Sign answers a sign, or a fault.
func signs(t *testing.T, a, b api.Value, want int, code api.Errno, at int) {
	t.Helper()
	sign, e := number.Sign(a, b)
	answers(t, sign, e, want, code, at, "Sign", a, b)
}

// compares fails unless Compare answers a value, or a fault.
func compares(t *testing.T, op api.Op, a, b, want api.Value, code api.Errno, at int) {
	t.Helper()
	v, e := number.Compare(op, a, b)
	answers(t, v, e, want, code, at, "Compare", op, a, b)
}

// truth is what a comparison answers if the first value is less (-1), equal (0)
// or greater (1).
func truth(op api.Op, sign int) api.Value {
	return map[api.Op][3]api.Value{
		api.Eq: {no, yes, no},
		api.Ne: {yes, no, yes},
		api.Lt: {yes, no, no},
		api.Le: {yes, yes, no},
		api.Gt: {no, no, yes},
		api.Ge: {no, yes, yes},
	}[op][sign+1]
}

// P3.1 (N3), P3.4: numbers of both kinds, by hand and held against what they
// represent.
func TestSignNumbers(t *testing.T) {
	for _, x := range []struct {
		a, b api.Value
		want int
	}{
		{whole(1), decimal(10000), 0}, {whole(1), decimal(9999), 1}, {whole(1), decimal(10001), -1},
		{whole(-1), decimal(-10000), 0}, {whole(-1), decimal(-9999), -1}, {whole(-1), decimal(-10001), 1},
		{whole(0), decimal(0), 0}, {whole(0), decimal(1), -1}, {whole(0), decimal(-1), 1},
		{whole(most), decimal(most), 1}, {whole(least), decimal(least), -1},
		{whole(922337203685477), decimal(most), -1}, {whole(922337203685478), decimal(most), 1},
		{whole(-922337203685477), decimal(least), 1}, {whole(-922337203685478), decimal(least), -1},
		{whole(1), whole(2), -1}, {whole(most), whole(least), 1}, {decimal(-3), decimal(-2), -1}, {decimal(most), decimal(least), 1},
	} {
		signs(t, x.a, x.b, x.want, api.OK, -1)
		signs(t, x.b, x.a, -x.want, api.OK, -1)
	}
	l := numbers()
	for _, a := range l {
		for _, b := range l {
			signs(t, a, b, rational(a).Cmp(rational(b)), api.OK, -1)
		}
		if t.Failed() {
			return
		}
	}
	r := rand.New(rand.NewPCG(3, 4))
	for range 50000 {
		a, b := anyNumber(r), anyNumber(r)
		signs(t, a, b, rational(a).Cmp(rational(b)), api.OK, -1)
		near := decimal(a.N/api.Scale*api.Scale + int64(r.IntN(3)) - 1)
		signs(t, whole(a.N/api.Scale), near, rational(whole(a.N/api.Scale)).Cmp(rational(near)), api.OK, -1)
	}
}

// P3.4: sorted by Sign, numbers ascend by what they represent.
func TestSignTotal(t *testing.T) {
	l := numbers()
	slices.SortFunc(l, func(a, b api.Value) int {
		sign, e := number.Sign(a, b)
		if e != nil {
			t.Errorf("Sign(%v, %v): %v", a, b, e)
		}
		return sign
	})
	for i, b := range l[1:] {
		if a := l[i]; rational(a).Cmp(rational(b)) > 0 {
			t.Errorf("%v stands ahead of %v", a, b)
		}
	}
}

// P3.1 (N3): two values of the same other kind.
func TestSignOthers(t *testing.T) {
	for _, l := range [][]api.Value{
		{no, yes},
		{text(""), text("\x00"), text("A"), text("a"), text("a\x00"), text("ab"), text("b"), text("\xff")},
		{bytes(""), bytes("\x00"), bytes("\x00\x00"), bytes("1"), bytes("\x80"), bytes("\xff"), bytes("\xff\x00")},
	} {
		for i, a := range l {
			for k, b := range l {
				signs(t, a, b, cmp.Compare(i, k), api.OK, -1)
			}
		}
	}
}

// P3.1 (N3): kinds that differ.
func TestSignKinds(t *testing.T) {
	all := append(others(), whole(0), whole(1), decimal(0), decimal(10000))
	numeric := func(v api.Value) bool { return v.Kind == api.Int || v.Kind == api.Dec }
	for _, a := range all {
		for _, b := range all {
			if a.Kind == b.Kind || numeric(a) && numeric(b) {
				continue
			}
			signs(t, a, b, 0, api.ErrType, 1)
			for _, op := range comparisons() {
				compares(t, op, a, b, null, api.ErrType, 1)
			}
		}
	}
}

// P3.1 (N3): what is not valid, or Null; the first one is named.
func TestSignFaults(t *testing.T) {
	right := append(others(), whole(0), whole(most), decimal(least))
	wrong := append(invalid(), null)
	for _, w := range wrong {
		for _, v := range right {
			signs(t, w, v, 0, api.ErrType, 0)
			signs(t, v, w, 0, api.ErrType, 1)
		}
		for _, v := range wrong {
			signs(t, w, v, 0, api.ErrType, 0)
		}
	}
}

// P3.1 (N3): the six comparisons of what is less, equal and greater.
func TestCompare(t *testing.T) {
	for _, x := range []struct{ a, b api.Value }{
		{whole(1), whole(2)}, {whole(1), decimal(10001)}, {decimal(-1), whole(0)}, {decimal(1), decimal(2)}, {decimal(most), whole(most)},
		{no, yes}, {text("a"), text("ab")}, {bytes("\x7f"), bytes("\x80")},
	} {
		for _, op := range comparisons() {
			compares(t, op, x.a, x.b, truth(op, -1), api.OK, -1)
			compares(t, op, x.b, x.a, truth(op, 1), api.OK, -1)
			compares(t, op, x.a, x.a, truth(op, 0), api.OK, -1)
		}
	}
	for _, op := range comparisons() {
		compares(t, op, whole(-3), decimal(-30000), truth(op, 0), api.OK, -1)
	}
}

// P3.1 (N3): Compare beside Null, of whatever kind the other value is.
func TestCompareNull(t *testing.T) {
	for _, op := range comparisons() {
		for _, v := range append(others(), null, whole(0), whole(most), decimal(0), decimal(least)) {
			compares(t, op, null, v, null, api.OK, -1)
			compares(t, op, v, null, null, api.OK, -1)
		}
	}
}

// P3.1 (N3): Compare of what is not valid, even beside Null, which is named no
// more; the first one is.
func TestCompareFaults(t *testing.T) {
	right := append(others(), null, whole(0), whole(most), decimal(least))
	for _, op := range comparisons() {
		for _, w := range invalid() {
			for _, v := range right {
				compares(t, op, w, v, null, api.ErrType, 0)
				compares(t, op, v, w, null, api.ErrType, 1)
			}
			for _, v := range invalid() {
				compares(t, op, w, v, null, api.ErrType, 0)
			}
		}
	}
}

// P3.1 (N3): ops of no comparison, whatever the values are.
func TestCompareOps(t *testing.T) {
	values := append(invalid(), null, no, text("a"), whole(0), decimal(0))
	for _, op := range append(strangers(), arithmetic()...) {
		for _, a := range values {
			for _, b := range values {
				compares(t, op, a, b, null, api.ErrArg, 0)
			}
		}
	}
}
