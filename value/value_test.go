package value_test

import (
	"cmp"
	"math"
	"slices"
	"strings"
	"testing"

	"frankpledge/api"
	"frankpledge/fault"
	"frankpledge/value"
)

var (
	null = api.Value{}
	no   = api.Value{Kind: api.Bool}
	yes  = api.Value{Kind: api.Bool, N: 1}
)

func whole(n int64) api.Value   { return api.Value{Kind: api.Int, N: n} }
func decimal(n int64) api.Value { return api.Value{Kind: api.Dec, N: n} }
func text(s string) api.Value   { return api.Value{Kind: api.Text, S: s} }
func bytes(s string) api.Value  { return api.Value{Kind: api.Bytes, S: s} }

// invalid values: each has something in it that its kind rules out.
func invalid() []api.Value {
	long := strings.Repeat("a", api.MaxText+1)
	return []api.Value{
		{Kind: api.Null, N: 1}, {Kind: api.Null, N: -1}, {Kind: api.Null, S: "a"}, {Kind: api.Null, S: "\x00"},
		{Kind: api.Bool, N: 2}, {Kind: api.Bool, N: -1}, {Kind: api.Bool, N: math.MinInt64}, {Kind: api.Bool, S: "a"}, {Kind: api.Bool, N: 1, S: "true"},
		{Kind: api.Int, S: "a"}, {Kind: api.Int, N: 5, S: "5"}, {Kind: api.Dec, S: "a"}, {Kind: api.Dec, N: -5, S: "\x00"},
		{Kind: api.Text, N: 1}, {Kind: api.Text, N: -1, S: "a"}, text(long), text(strings.Repeat("'", api.MaxText+1)),
		{Kind: api.Bytes, N: 1}, {Kind: api.Bytes, N: math.MaxInt64, S: "a"}, bytes(long), bytes(strings.Repeat("\x00", 1<<20)),
		{Kind: -1}, {Kind: 6}, {Kind: 6, S: "a"}, {Kind: math.MaxInt, N: 1}, {Kind: math.MinInt},
	}
}

// texts are those of valid values, of every kind, with the edges.
func texts() map[api.Value]string {
	return map[api.Value]string{
		null: "null", no: "false", yes: "true",
		whole(0): "0", whole(7): "7", whole(-1): "-1", whole(10): "10", whole(-1200): "-1200",
		whole(math.MaxInt64): "9223372036854775807", whole(math.MinInt64): "-9223372036854775808",
		decimal(0): "0.0000", decimal(1): "0.0001", decimal(-1): "-0.0001", decimal(90): "0.0090", decimal(-9999): "-0.9999",
		decimal(10000): "1.0000", decimal(-10000): "-1.0000", decimal(10010): "1.0010", decimal(-123456789): "-12345.6789",
		decimal(math.MaxInt64): "922337203685477.5807", decimal(math.MinInt64): "-922337203685477.5808",
		bytes("\x00"): "x'00'", bytes("'"): "x'27'", bytes("\x0f\xf0\xab\xcd\xef"): "x'0ff0abcdef'", bytes("a1"): "x'6131'",
		text(""): "''", bytes(""): "x''", text("'"): "''''", text("''"): "''''''", text("it's"): "'it''s'", text("a'"): "'a'''", text("'a"): "'''a'",
		text("null"): "'null'", text("x'00'"): "'x''00'''", text("?"): "'?'", text("\x00\xff"): "'\x00\xff'", text("Grüße\n"): "'Grüße\n'",
		text(strings.Repeat("a", api.MaxText)):     "'" + strings.Repeat("a", api.MaxText) + "'",
		text(strings.Repeat("'", api.MaxText)):     "'" + strings.Repeat("''", api.MaxText) + "'",
		bytes(strings.Repeat("\x9e", api.MaxText)): "x'" + strings.Repeat("9e", api.MaxText) + "'",
	}
}

// faulty fails unless there is just the one fault, and nothing beside it.
func faulty(t *testing.T, what string, v api.Value, e error, code api.Errno, at int) {
	t.Helper()
	if !slices.Equal(fault.Codes(e), []api.Errno{code}) || !slices.Equal(fault.Places(e), []int{at}) {
		t.Errorf("%s: %v, not %d at %d", what, e, code, at)
	}
	if v != null {
		t.Errorf("%s: %v beside a fault", what, v)
	}
}

// P2.1 (V1): Right.
func TestRight(t *testing.T) {
	for v := range texts() {
		if !value.Right(v) {
			t.Errorf("%v is not valid", v)
		}
	}
	for _, v := range invalid() {
		if value.Right(v) {
			t.Errorf("%v is valid", v)
		}
	}
}

// ascending are values, valid or not, each of them less than the next one.
func ascending() []api.Value {
	return []api.Value{
		{Kind: math.MinInt, N: 9}, {Kind: -1, S: "z"}, {Kind: -1, N: 1},
		{Kind: api.Null, N: -1}, null, {Kind: api.Null, S: "a"}, {Kind: api.Null, N: 1},
		{Kind: api.Bool, N: -1}, no, {Kind: api.Bool, S: "a"}, yes, {Kind: api.Bool, N: 2},
		whole(math.MinInt64), whole(-1), whole(0), {Kind: api.Int, S: "a"}, whole(1), whole(20000), whole(math.MaxInt64),
		decimal(math.MinInt64), decimal(-1), decimal(0), decimal(1), decimal(math.MaxInt64),
		{Kind: api.Text, N: -1, S: "z"}, text(""), text("\x00"), text("\x00\x00"), text("\x01"), text("A"), text("a"), text("a\x00"), text("aa"), text("b"), text("\x7f"), text("é"), text("\xff"), {Kind: api.Text, N: 1},
		bytes(""), bytes("\x00"), bytes("a"), bytes("\xff"), bytes("\xff\x00"),
		{Kind: 6}, {Kind: math.MaxInt, N: -1},
	}
}

// ascend fails unless each item is less than the next ones, equal to itself, and
// greater than those before it.
func ascend[T any](t *testing.T, l []T, order func(a, b T) int) {
	t.Helper()
	for i, a := range l {
		for k, b := range l {
			if got, want := order(a, b), cmp.Compare(i, k); got != want {
				t.Errorf("%v and %v: %d, not %d", a, b, got, want)
			}
		}
	}
}

// P2.1 (V1), P2.3: Order, in both directions, for any two.
func TestOrder(t *testing.T) {
	ascend(t, ascending(), value.Order)
}

// P2.1 (V1): Rows.
func TestRows(t *testing.T) {
	ascend(t, [][]api.Value{
		nil,
		{null},
		{null, null},
		{null, whole(1)},
		{null, whole(2)},
		{no},
		{whole(-1), text("z")},
		{whole(1)},
		{whole(1), null},
		{whole(1), whole(2), whole(9)},
		{whole(1), whole(3)},
		{whole(1), decimal(-1)},
		{whole(2)},
		{text("a"), text("b")},
		{text("a\x00")},
		{bytes("")},
	}, value.Rows)
	if value.Rows([]api.Value{}, nil) != 0 || value.Rows(nil, []api.Value{}) != 0 {
		t.Error("an empty list isn't equal to nil")
	}
}

// Rule 4: what lies behind the end of a list does not count.
func TestRowsEnd(t *testing.T) {
	a := []api.Value{whole(1), whole(2)}
	b := []api.Value{whole(1), whole(3)}
	if value.Rows(a[:1], b[:1]) != 0 || value.Rows(a[:0], b[:0]) != 0 {
		t.Error("values behind the end are compared")
	}
	if a[0] != whole(1) || a[1] != whole(2) || b[0] != whole(1) || b[1] != whole(3) {
		t.Error("an argument is changed")
	}
}

// lists are all lists of up to three of some values.
func lists() [][]api.Value {
	some := []api.Value{null, yes, whole(0), decimal(0), text(""), text("a"), {Kind: api.Int, S: "a"}}
	all := [][]api.Value{nil}
	for _, a := range some {
		all = append(all, []api.Value{a})
		for _, b := range some {
			all = append(all, []api.Value{a, b}, []api.Value{a, b, null}, []api.Value{a, b, text("a")})
		}
	}
	return all
}

// P2.3: lists are totally ordered: any two of them are comparable the same way
// from both sides, only equal ones are equal, and the order is transitive.
func TestRowsTotal(t *testing.T) {
	all := lists()
	for _, a := range all {
		for _, b := range all {
			ab := value.Rows(a, b)
			if ab != -value.Rows(b, a) || (ab == 0) != slices.Equal(a, b) || ab < -1 || ab > 1 {
				t.Fatalf("Rows(%v, %v) = %d", a, b, ab)
			}
			for _, c := range all {
				if ab <= 0 && value.Rows(b, c) <= 0 && value.Rows(a, c) > 0 {
					t.Fatalf("%v <= %v <= %v, but not the first and the last", a, b, c)
				}
			}
		}
	}
}

// P2.1 (V2): And, Or and Not of truth values.
func TestLogic(t *testing.T) {
	for _, x := range []struct{ a, b, and, or api.Value }{
		{no, no, no, no}, {no, null, no, null}, {no, yes, no, yes},
		{null, no, no, null}, {null, null, null, null}, {null, yes, null, yes},
		{yes, no, no, yes}, {yes, null, null, yes}, {yes, yes, yes, yes},
	} {
		if v, e := value.And(x.a, x.b); v != x.and || e != nil {
			t.Errorf("And(%v, %v) = %v, %v", x.a, x.b, v, e)
		}
		if v, e := value.Or(x.a, x.b); v != x.or || e != nil {
			t.Errorf("Or(%v, %v) = %v, %v", x.a, x.b, v, e)
		}
	}
	for a, want := range map[api.Value]api.Value{no: yes, null: null, yes: no} {
		if v, e := value.Not(a); v != want || e != nil {
			t.Errorf("Not(%v) = %v, %v", a, v, e)
		}
	}
}

// P2.1 (V2): what is not a truth value, even beside one that would settle the
// answer; the first one is named.
func TestLogicFaults(t *testing.T) {
	wrong := append(invalid(), whole(0), whole(1), decimal(0), decimal(1), text(""), text("true"), bytes(""))
	for _, w := range wrong {
		v, e := value.Not(w)
		faulty(t, "Not", v, e, api.ErrType, 0)
		for _, x := range []struct {
			name string
			call func(a, b api.Value) (api.Value, error)
		}{{"And", value.And}, {"Or", value.Or}} {
			for _, b := range []api.Value{no, null, yes, w, whole(3)} {
				v, e := x.call(w, b)
				faulty(t, x.name+" with a wrong first one", v, e, api.ErrType, 0)
			}
			for _, a := range []api.Value{no, null, yes} {
				v, e := x.call(a, w)
				faulty(t, x.name+" with a wrong second one", v, e, api.ErrType, 1)
			}
		}
	}
}

// done is an answer that has no fault.
func done(t *testing.T, v api.Value, e error) api.Value {
	t.Helper()
	if e != nil {
		t.Errorf("a fault: %v", e)
	}
	return v
}

// P2.4: the laws of logic.
func TestLaws(t *testing.T) {
	and := func(a, b api.Value) api.Value { v, e := value.And(a, b); return done(t, v, e) }
	or := func(a, b api.Value) api.Value { v, e := value.Or(a, b); return done(t, v, e) }
	not := func(a api.Value) api.Value { v, e := value.Not(a); return done(t, v, e) }
	for _, a := range []api.Value{no, null, yes} {
		if not(not(a)) != a {
			t.Errorf("not not %v is %v", a, not(not(a)))
		}
		for _, b := range []api.Value{no, null, yes} {
			if and(a, b) != and(b, a) || or(a, b) != or(b, a) {
				t.Errorf("%v and %v aren't commutative", a, b)
			}
			if not(and(a, b)) != or(not(a), not(b)) || not(or(a, b)) != and(not(a), not(b)) {
				t.Errorf("De Morgan's laws don't hold for %v and %v", a, b)
			}
		}
	}
}

// The example of README.md.
func TestReadmeExample(t *testing.T) {
	v, e := value.Read("-1.2500")
	if v != decimal(-12500) || e != nil {
		t.Errorf("%v, %v", v, e)
	}
	if s := value.Text(text("it's")); s != "'it''s'" {
		t.Errorf("text %q", s)
	}
	if v, e := value.And(no, null); v != no || e != nil {
		t.Errorf("%v, %v", v, e)
	}
	if value.Order(null, v) != -1 {
		t.Error("Null isn't first")
	}
}
