package number_test

import (
	"math/rand/v2"
	"slices"
	"sync"
	"testing"

	"frankpledge/api"
	"frankpledge/number"
)

// reckons fails unless Reckon answers a value, or a fault.
func reckons(t *testing.T, op api.Op, a, b, want api.Value, code api.Errno, at int) {
	t.Helper()
	v, e := number.Reckon(op, a, b)
	answers(t, v, e, want, code, at, "Reckon", op, a, b)
}

// P3.1 (N1): results by hand.
func TestReckon(t *testing.T) {
	for _, x := range []struct {
		op         api.Op
		a, b, want api.Value
	}{
		{api.Add, whole(2), whole(3), whole(5)},
		{api.Add, whole(2), decimal(5000), decimal(25000)},
		{api.Add, decimal(5000), whole(-2), decimal(-15000)},
		{api.Add, decimal(1), decimal(2), decimal(3)},
		{api.Add, whole(most), whole(least), whole(-1)},
		{api.Sub, whole(2), whole(3), whole(-1)},
		{api.Sub, whole(-1), whole(least), whole(most)},
		{api.Sub, whole(least), whole(least), whole(0)},
		{api.Sub, decimal(least), whole(0), decimal(least)},
		{api.Sub, whole(1), decimal(1), decimal(9999)},
		{api.Mul, whole(6), whole(-7), whole(-42)},
		{api.Mul, decimal(15000), whole(2), decimal(30000)},
		{api.Mul, decimal(15000), decimal(-15000), decimal(-22500)},
		{api.Mul, decimal(1), decimal(9999), decimal(0)},
		{api.Mul, decimal(-1), decimal(9999), decimal(0)},
		{api.Mul, decimal(-19999), decimal(1), decimal(-1)},
		{api.Mul, decimal(most), decimal(10000), decimal(most)},
		{api.Mul, decimal(least), whole(1), decimal(least)},
		{api.Mul, whole(-1 << 32), whole(1 << 31), whole(least)},
		{api.Div, whole(8), whole(3), whole(2)},
		{api.Div, whole(-7), whole(2), whole(-3)},
		{api.Div, whole(7), whole(-2), whole(-3)},
		{api.Div, whole(-7), whole(-2), whole(3)},
		{api.Div, whole(1), decimal(30000), decimal(3333)},
		{api.Div, decimal(-20000), whole(3), decimal(-6666)},
		{api.Div, decimal(1), decimal(most), decimal(0)},
		{api.Div, decimal(most), decimal(10000), decimal(most)},
		{api.Div, decimal(most), decimal(most), decimal(10000)},
		{api.Div, whole(0), whole(-5), whole(0)},
		{api.Div, whole(least), whole(1), whole(least)},
	} {
		reckons(t, x.op, x.a, x.b, x.want, api.OK, -1)
	}
}

// P3.1 (N1): faults by hand.
func TestReckonFaults(t *testing.T) {
	for _, x := range []struct {
		op   api.Op
		a, b api.Value
		code api.Errno
		at   int
	}{
		{api.Add, whole(most), whole(1), api.ErrOverflow, 2},
		{api.Add, whole(least), whole(-1), api.ErrOverflow, 2},
		{api.Add, decimal(most), decimal(1), api.ErrOverflow, 2},
		{api.Sub, whole(0), whole(least), api.ErrOverflow, 2},
		{api.Sub, whole(least), whole(1), api.ErrOverflow, 2},
		{api.Sub, whole(most), whole(-1), api.ErrOverflow, 2},
		{api.Mul, whole(1 << 32), whole(1 << 31), api.ErrOverflow, 2},
		{api.Mul, whole(least), whole(-1), api.ErrOverflow, 2},
		{api.Mul, whole(1 << 62), whole(4), api.ErrOverflow, 2},
		{api.Mul, decimal(most), decimal(10001), api.ErrOverflow, 2},
		{api.Mul, decimal(least), whole(-1), api.ErrOverflow, 2},
		{api.Div, whole(least), whole(-1), api.ErrOverflow, 2},
		{api.Div, decimal(most), decimal(9999), api.ErrOverflow, 2},
		{api.Div, decimal(least), whole(-1), api.ErrOverflow, 2},
		{api.Div, whole(1), whole(0), api.ErrZero, 1},
		{api.Div, whole(0), whole(0), api.ErrZero, 1},
		{api.Div, decimal(most), whole(0), api.ErrZero, 1},
		{api.Div, whole(1), decimal(0), api.ErrZero, 1},
		{api.Add, whole(922337203685478), decimal(0), api.ErrOverflow, 0},
		{api.Sub, decimal(0), whole(922337203685478), api.ErrOverflow, 1},
		{api.Mul, whole(-922337203685478), decimal(0), api.ErrOverflow, 0},
		{api.Div, decimal(1), whole(least), api.ErrOverflow, 1},
		{api.Div, whole(most), decimal(0), api.ErrOverflow, 0},
		{api.Sub, whole(most), decimal(most), api.ErrOverflow, 0},
	} {
		reckons(t, x.op, x.a, x.b, null, x.code, x.at)
	}
	reckons(t, api.Add, whole(922337203685477), decimal(5807), decimal(most), api.OK, -1)
	reckons(t, api.Sub, decimal(-5808), whole(922337203685477), decimal(least), api.OK, -1)
}

// P3.1 (N1), P3.2: any two of many numbers, held against the exact results of
// what they represent.
func TestReckonModel(t *testing.T) {
	check := func(a, b api.Value) {
		for _, op := range arithmetic() {
			want, code, at := model(op, a, b)
			reckons(t, op, a, b, want, code, at)
		}
	}
	l := numbers()
	for _, a := range l {
		for _, b := range l {
			check(a, b)
		}
		if t.Failed() {
			return
		}
	}
	r := rand.New(rand.NewPCG(1, 2))
	for range 50000 {
		check(anyNumber(r), anyNumber(r))
	}
}

// P3.1 (N1): Null beside a number or Null, even one that could not be promoted,
// or divide.
func TestReckonNull(t *testing.T) {
	for _, op := range arithmetic() {
		reckons(t, op, null, null, null, api.OK, -1)
		for _, v := range numbers() {
			reckons(t, op, null, v, null, api.OK, -1)
			reckons(t, op, v, null, null, api.OK, -1)
		}
	}
}

// P3.1 (N1): what is neither a number nor Null; the first one is named, and
// comes ahead of all but a wrong op.
func TestReckonTypes(t *testing.T) {
	terms := []api.Value{null, whole(0), whole(most), decimal(0), decimal(1), decimal(least)}
	wrong := append(invalid(), others()...)
	for _, w := range wrong {
		for _, op := range arithmetic() {
			for _, v := range terms {
				reckons(t, op, w, v, null, api.ErrType, 0)
				reckons(t, op, v, w, null, api.ErrType, 1)
			}
			for _, v := range wrong {
				reckons(t, op, w, v, null, api.ErrType, 0)
			}
		}
	}
}

// P3.1 (N1): ops of no arithmetic, whatever the values are.
func TestReckonOps(t *testing.T) {
	values := append(invalid(), null, no, text("a"), whole(0), whole(most), decimal(0))
	for _, op := range append(strangers(), comparisons()...) {
		for _, a := range values {
			for _, b := range values {
				reckons(t, op, a, b, null, api.ErrArg, 0)
			}
		}
	}
}

// P3.1 (N2): Neg.
func TestNeg(t *testing.T) {
	v, e := number.Neg(null)
	answers(t, v, e, null, api.OK, -1, "Neg", null)
	for _, a := range numbers() {
		v, e := number.Neg(a)
		if a.N == least {
			answers(t, v, e, null, api.ErrOverflow, 2, "Neg", a)
			continue
		}
		answers(t, v, e, api.Value{Kind: a.Kind, N: -a.N}, api.OK, -1, "Neg", a)
	}
	for _, a := range append(invalid(), others()...) {
		v, e := number.Neg(a)
		answers(t, v, e, null, api.ErrType, 0, "Neg", a)
	}
}

// P3.3: subtraction reverses addition, if the sum fits.
func TestInverseSum(t *testing.T) {
	reversed := 0
	l := numbers()
	for _, a := range l {
		for _, b := range l {
			sum, e := number.Reckon(api.Add, a, b)
			if e != nil {
				continue
			}
			back, e := number.Reckon(api.Sub, sum, b)
			if same, _ := number.Sign(back, a); e != nil || same != 0 || back.Kind != max(a.Kind, b.Kind) {
				t.Fatalf("%v + %v = %v, but less the latter it is %v, %v", a, b, sum, back, e)
			}
			reversed++
		}
	}
	if reversed < 10000 {
		t.Errorf("only %d sums fit", reversed)
	}
}

// P3.3: a product divided by a factor is the other factor, if the product fits
// and nothing of it is truncated.
func TestInverseProduct(t *testing.T) {
	reversed := 0
	l := numbers()
	for _, a := range l {
		for _, b := range l {
			product, e := number.Reckon(api.Mul, a, b)
			exact := max(a.Kind, b.Kind) == api.Int || min(a.Kind, b.Kind) == api.Int || a.N%api.Scale == 0
			if e != nil || !exact || b.N == 0 {
				continue
			}
			back, e := number.Reckon(api.Div, product, b)
			if same, _ := number.Sign(back, a); e != nil || same != 0 {
				t.Fatalf("%v * %v = %v, but divided by the latter it is %v, %v", a, b, product, back, e)
			}
			reversed++
		}
	}
	if reversed < 10000 {
		t.Errorf("only %d products fit", reversed)
	}
}

// outcome is what a call answers, its fault as text.
type outcome struct {
	v     api.Value
	sign  int
	fault string
}

// outcomes are those of all calls with any two of some values.
func outcomes(values []api.Value, ops []api.Op) []outcome {
	var l []outcome
	add := func(v api.Value, sign int, e error) {
		o := outcome{v: v, sign: sign}
		if e != nil {
			o.fault = e.Error()
		}
		l = append(l, o)
	}
	for _, a := range values {
		v, e := number.Neg(a)
		add(v, 0, e)
		for _, b := range values {
			sign, e := number.Sign(a, b)
			add(null, sign, e)
			for _, op := range ops {
				v, e := number.Reckon(op, a, b)
				add(v, 0, e)
				v, e = number.Compare(op, a, b)
				add(v, 0, e)
			}
		}
	}
	return l
}

// P1, P2: no call panics, whatever it is given, and calls that came before, or
// go on meanwhile, change no answer.
func TestSameAgain(t *testing.T) {
	values := slices.Concat(invalid(), others(), []api.Value{null, whole(0), whole(-3), whole(most), decimal(0), decimal(7), decimal(least)})
	ops := slices.Concat(strangers(), arithmetic(), comparisons())
	first := outcomes(values, ops)
	again := make([][]outcome, 4)
	var wait sync.WaitGroup
	for i := range again {
		wait.Go(func() { again[i] = outcomes(values, ops) })
	}
	wait.Wait()
	for _, l := range again {
		if !slices.Equal(l, first) {
			t.Error("the same calls have other answers")
		}
	}
}

// The examples of README.md.
func TestReadmeExample(t *testing.T) {
	reckons(t, api.Div, whole(8), whole(3), whole(2), api.OK, -1)
	reckons(t, api.Mul, decimal(15000), whole(2), decimal(30000), api.OK, -1)
	reckons(t, api.Div, whole(1), whole(0), null, api.ErrZero, 1)
	compares(t, api.Le, whole(2), decimal(20000), yes, api.OK, -1)
	signs(t, text("a"), text("ab"), -1, api.OK, -1)
}
