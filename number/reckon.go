package number

import (
	"math/bits"

	"frankpledge/api"
	"frankpledge/value"
)

// isKnown tells whether a value is valid and not Null.
func isKnown(v api.Value) bool {
	return value.Right(v) && v.Kind != api.Null
}

// isNumber asks a valid value's kind.
func isNumber(v api.Value) bool {
	return v.Kind == api.Int || v.Kind == api.Dec
}

// isTerm tells whether one may reckon with a value: it is a number or Null.
func isTerm(v api.Value) bool {
	return value.Right(v) && (isNumber(v) || v.Kind == api.Null)
}

// common is the kind in which two numbers are reckoned with.
func common(a, b api.Kind) api.Kind {
	if a == api.Dec {
		return a
	}
	return b
}

// unit is the number that represents 1 in a kind.
func unit(kind api.Kind) int64 {
	if kind == api.Dec {
		return api.Scale
	}
	return 1
}

// promote is the number that a value has in a kind, if it fits.
func promote(v api.Value, kind api.Kind) (int64, bool) {
	return ratio(v.N, unit(kind), unit(v.Kind))
}

// parts are a number's whole part and what is left, which has its sign. Numbers
// of either kind are ordered by the two: promotion might not fit.
func parts(v api.Value) (whole, rest int64) {
	return v.N / unit(v.Kind), v.N % unit(v.Kind)
}

// result is that of an operation on two numbers of one kind, if it fits. A
// difference is a sum with the other number's complement, as the least number
// has no negative; a quotient multiplies by the unit where a product divides
// by it.
func result(op api.Op, a, b, one int64) (int64, bool) {
	carry, factor, divisor := int64(0), b, one
	switch op {
	case api.Sub:
		b, carry = ^b, 1
		fallthrough
	case api.Add:
		return sum(a, b, carry)
	case api.Div:
		factor, divisor = one, b
		fallthrough
	case api.Mul:
		return ratio(a, factor, divisor)
	}
	return 0, false
}

// sum adds two numbers and a carry of 0 or 1. It doesn't fit just if it has
// wrapped round to a sign that neither number has.
func sum(a, b, carry int64) (int64, bool) {
	n := a + b + carry
	return n, (a^n)&(b^n) >= 0
}

// ratio is a times b by c, truncated towards 0, if c isn't 0 and the ratio
// fits; the product has as many bits as it needs.
func ratio(a, b, c int64) (int64, bool) {
	high, low := bits.Mul64(magnitude(a), magnitude(b))
	if high >= magnitude(c) {
		return 0, false
	}
	size, _ := bits.Div64(high, low, magnitude(c))
	if a^b^c < 0 {
		return -int64(size), size <= 1<<63
	}
	return int64(size), size < 1<<63
}

// magnitude has no sign, as the least number has no positive one of its kind.
func magnitude(n int64) uint64 {
	if n < 0 {
		return -uint64(n)
	}
	return uint64(n)
}

// holds tells whether a comparison holds between values of a sign.
func holds(op api.Op, sign int) bool {
	switch op {
	case api.Eq:
		return sign == 0
	case api.Ne:
		return sign != 0
	case api.Gt:
		sign = -sign
		fallthrough
	case api.Lt:
		return sign < 0
	case api.Ge:
		sign = -sign
		fallthrough
	case api.Le:
		return sign <= 0
	}
	return false
}
