package fault_test

import (
	"errors"
	"slices"
	"testing"
	"time"

	"frankpledge/api"
	"frankpledge/fault"
)

// model is what the document says of an error: the codes and places are held
// in lists of their own, and nil is told apart.
type model struct {
	e      error
	isNil  bool
	codes  []api.Errno
	places []int
	deep   int
}

func modelNew(code api.Errno, at int) model {
	e := fault.New(code, at)
	if code == api.OK {
		return model{e: e, isNil: true}
	}
	return model{e: e, codes: []api.Errno{code}, places: []int{at}, deep: 1}
}

func (m model) wrap(code api.Errno, at int) model {
	w := m
	w.e = fault.Wrap(m.e, code, at)
	if m.isNil || code == api.OK {
		return w
	}
	w.codes = append([]api.Errno{code}, m.codes...)
	w.places = append([]int{at}, m.places...)
	w.deep = m.deep + 1
	return w
}

func (m model) join(n model) model {
	return model{
		e:      fault.Join(m.e, n.e),
		isNil:  m.isNil && n.isNil,
		codes:  slices.Concat(m.codes, n.codes),
		places: slices.Concat(m.places, n.places),
		deep:   max(m.deep, n.deep),
	}
}

// check holds every answer about an error against its model.
func (m model) check(t *testing.T) {
	t.Helper()
	if (m.e == nil) != m.isNil {
		t.Fatalf("%v is nil: %v", m.e, m.e == nil)
	}
	if got := fault.Codes(m.e); !slices.Equal(got, m.codes) {
		t.Fatalf("Codes(%v) = %v, not %v", m.e, got, m.codes)
	}
	if got := fault.Places(m.e); !slices.Equal(got, m.places) {
		t.Fatalf("Places(%v) = %v, not %v", m.e, got, m.places)
	}
	if got := fault.Deep(m.e); got != m.deep {
		t.Fatalf("Deep(%v) = %d, not %d", m.e, got, m.deep)
	}
	code, at := api.OK, -1
	if len(m.codes) > 0 {
		code, at = m.codes[0], m.places[0]
	}
	if fault.Code(m.e) != code || fault.At(m.e) != at {
		t.Fatalf("Code, At of %v = %d, %d, not %d, %d", m.e, fault.Code(m.e), fault.At(m.e), code, at)
	}
	for _, c := range []api.Errno{api.OK, api.ErrArg, api.ErrType, api.ErrOverflow, api.ErrKey, api.ErrLine, -4, 1 << 40} {
		if got := fault.Has(m.e, c); got != slices.Contains(m.codes, c) {
			t.Fatalf("Has(%v, %d) = %v", m.e, c, got)
		}
	}
}

// grow adds all wraps and joins of what is there.
func grow(l []model) []model {
	more := slices.Clone(l)
	for _, m := range l {
		more = append(more, m.wrap(api.ErrOverflow, 7), m.wrap(api.ErrType, -1), m.wrap(api.OK, 9))
		for _, n := range l {
			more = append(more, m.join(n))
		}
	}
	return more
}

// P1.1, P1.2: all errors of up to two steps over some faults and nil.
func TestAllSmallErrors(t *testing.T) {
	l := []model{
		{isNil: true},
		modelNew(api.OK, 3),
		modelNew(api.ErrType, 0),
		modelNew(api.ErrKey, 1<<40),
		modelNew(-4, -9),
	}
	l = grow(grow(l))
	if len(l) < 2000 {
		t.Fatalf("only %d errors", len(l))
	}
	for _, m := range l {
		m.check(t)
	}
	// P2: what was made, wrapped, joined and asked meanwhile has no effect.
	for i := len(l) - 1; i >= 0; i-- {
		l[i].check(t)
	}
}

// P1.1 (F1): New.
func TestNew(t *testing.T) {
	if e := fault.New(api.OK, 5); e != nil {
		t.Errorf("New(OK) = %v", e)
	}
	for _, code := range []api.Errno{api.ErrArg, api.ErrLine, -1, 999} {
		for _, at := range []int{0, -1, 12, -1 << 63, 1<<63 - 1} {
			modelNew(code, at).check(t)
		}
	}
}

// P1.1 (F1): Wrap.
func TestWrap(t *testing.T) {
	if e := fault.Wrap(nil, api.ErrArg, 5); e != nil {
		t.Errorf("Wrap(nil) = %v", e)
	}
	if e := fault.Wrap(nil, api.OK, 5); e != nil {
		t.Errorf("Wrap(nil, OK) = %v", e)
	}
	a := fault.New(api.ErrKey, 3)
	if e := fault.Wrap(a, api.OK, 5); e != a {
		t.Errorf("Wrap(a, OK) = %v", e)
	}
	b := fault.Wrap(a, api.ErrKey, 3)
	if got := fault.Codes(b); !slices.Equal(got, []api.Errno{api.ErrKey, api.ErrKey}) {
		t.Errorf("the same code twice: %v", got)
	}
}

// P1.1 (F1): Join.
func TestJoin(t *testing.T) {
	a, b := fault.New(api.ErrKey, 3), fault.New(api.ErrRow, 4)
	if e := fault.Join(nil, nil); e != nil {
		t.Errorf("Join(nil, nil) = %v", e)
	}
	if fault.Join(a, nil) != a || fault.Join(nil, a) != a {
		t.Error("Join with nil isn't the other one")
	}
	if got := fault.Places(fault.Join(b, a)); !slices.Equal(got, []int{4, 3}) {
		t.Errorf("the order is lost: %v", got)
	}
	if got := fault.Places(fault.Join(a, a)); !slices.Equal(got, []int{3, 3}) {
		t.Errorf("joined with itself: %v", got)
	}
}

// P1.1 (F2): the depth of joined errors is the greater one, on either side.
func TestDeep(t *testing.T) {
	a := fault.New(api.ErrKey, 3)
	b := fault.Wrap(fault.Wrap(a, api.ErrRow, 4), api.ErrGone, 5)
	for _, e := range []error{fault.Join(a, b), fault.Join(b, a), fault.Join(fault.Join(a, a), b)} {
		if fault.Deep(e) != 3 || fault.Deep(fault.Wrap(e, api.ErrFull, 0)) != 4 {
			t.Errorf("Deep(%v) = %d", e, fault.Deep(e))
		}
	}
}

// P1.3: nil has no codes.
func TestNil(t *testing.T) {
	if len(fault.Codes(nil)) != 0 || len(fault.Places(nil)) != 0 || fault.Deep(nil) != 0 {
		t.Error("nil has codes")
	}
	if fault.Code(nil) != api.OK || fault.At(nil) != -1 {
		t.Error("nil has a first code")
	}
	for code := api.Errno(-1); code < 300; code++ {
		if fault.Has(nil, code) {
			t.Errorf("nil has %d", code)
		}
	}
}

// P1.1 (F2): OK is never one of the codes.
func TestHasOK(t *testing.T) {
	a := fault.New(api.ErrKey, 0)
	for _, e := range []error{nil, a, fault.Wrap(a, api.OK, 1), fault.Join(a, fault.New(api.OK, 1))} {
		if fault.Has(e, api.OK) {
			t.Errorf("%v has OK", e)
		}
	}
}

// P1.2: at the greatest depth that is promised nothing is lost.
func TestDeepest(t *testing.T) {
	const levels = 1 << 16
	chain, left, right := fault.New(1, 0), fault.New(1, 0), fault.New(1, 0)
	for i := 1; i < levels; i++ {
		chain = fault.Wrap(chain, api.Errno(i+1), i)
		left = fault.Join(left, fault.New(api.Errno(i+1), i))
		right = fault.Join(fault.New(api.Errno(i+1), i), right)
	}
	for _, e := range []error{chain, left, right} {
		codes, places := fault.Codes(e), fault.Places(e)
		if len(codes) != levels || len(places) != levels {
			t.Fatalf("%d codes, %d places", len(codes), len(places))
		}
		for i := range codes {
			want := i
			if e != left {
				want = levels - 1 - i
			}
			if int(codes[i]) != want+1 || places[i] != want {
				t.Fatalf("%d at %d in the place of %d", codes[i], places[i], want)
			}
		}
		if !fault.Has(e, 1) || !fault.Has(e, levels) || fault.Has(e, levels+1) {
			t.Error("Has")
		}
		if len(e.Error()) < levels {
			t.Error("the text is too short")
		}
	}
	if fault.Deep(chain) != levels || fault.Deep(left) != 1 || fault.Deep(right) != 1 {
		t.Error("Deep")
	}
}

// soon fails if a call does not end.
func soon(t *testing.T, what string, call func()) {
	t.Helper()
	done := make(chan any)
	go func() {
		defer func() { done <- recover() }()
		call()
	}()
	select {
	case p := <-done:
		if p != nil {
			t.Errorf("%s panics: %v", what, p)
		}
	case <-time.After(time.Minute):
		t.Fatalf("%s does not end", what)
	}
}

// P1: an error that occurs in itself 2^1000 times is asked in time.
func TestSharedParts(t *testing.T) {
	a, b := fault.New(api.ErrKey, 3), fault.New(api.ErrKey, 3)
	for i := range 1000 {
		a = fault.Join(a, a)
		b = fault.Join(fault.Wrap(b, api.ErrRow, i), fault.Wrap(b, api.ErrGone, i))
	}
	soon(t, "asking of joined errors", func() {
		if fault.Has(a, api.ErrRow) || !fault.Has(a, api.ErrKey) || fault.Deep(a) != 1 {
			t.Error("errors joined with themselves")
		}
		if fault.Code(a) != api.ErrKey || fault.At(a) != 3 {
			t.Error("the first fault of errors joined with themselves")
		}
		if fault.Has(b, api.ErrFull) || !fault.Has(b, api.ErrKey) || !fault.Has(b, api.ErrGone) || fault.Deep(b) != 1001 {
			t.Error("errors wrapped twice and joined")
		}
		if fault.Code(b) != api.ErrRow || fault.At(b) != 999 {
			t.Error("the first fault of errors wrapped twice and joined")
		}
	})
}

type endless struct{}

func (e endless) Error() string        { return "endless" }
func (e endless) Unwrap() error        { return e }
func (e endless) Is(target error) bool { return false }

type wide struct{}

func (w wide) Error() string   { return "wide" }
func (w wide) Unwrap() []error { return []error{w, w} }

type angry struct{ list []int }

func (a *angry) Error() string        { return string(rune(a.list[0])) }
func (a *angry) Unwrap() error        { panic("Unwrap") }
func (a *angry) Is(target error) bool { panic("Is") }
func (a *angry) As(target any) bool   { panic("As") }

type listed []error

func (l listed) Error() string { return "listed" }

// P1: errors from elsewhere, whatever their methods do, harm no call, and hide
// nothing of the faults that they are wrapped in or joined with.
func TestErrorsFromElsewhere(t *testing.T) {
	f := fault.New(api.ErrKey, 3)
	for _, e := range []error{endless{}, wide{}, &angry{}, (*angry)(nil), listed{nil}, errors.Join(f, endless{}), errors.New("other")} {
		soon(t, "asking of an error from elsewhere", func() {
			for _, x := range []error{e, fault.Join(e, e), fault.Join(e, nil), fault.Join(nil, e), fault.Wrap(e, api.OK, 1)} {
				if x == nil {
					t.Error("an error became nil")
				}
				fault.Code(x)
				fault.At(x)
				fault.Has(x, api.ErrKey)
				fault.Codes(x)
				fault.Places(x)
				fault.Deep(x)
			}
			w := fault.Wrap(e, api.ErrRow, 4)
			if fault.Code(w) != api.ErrRow || fault.At(w) != 4 || !fault.Has(w, api.ErrRow) || fault.Has(w, api.ErrKey) {
				t.Errorf("wrapped: %v", fault.Codes(w))
			}
			for _, x := range []error{fault.Join(e, f), fault.Join(f, e), fault.Join(fault.Join(e, e), f)} {
				if !fault.Has(x, api.ErrKey) || fault.Has(x, api.ErrRow) || fault.Code(x) != api.ErrKey {
					t.Errorf("joined: %v", fault.Codes(x))
				}
			}
		})
	}
}

// Rules 3 and 4: answers are new memory, and what is wrapped or joined does not
// change.
func TestNewMemory(t *testing.T) {
	a := fault.New(api.ErrKey, 3)
	e := fault.Join(fault.Wrap(a, api.ErrRow, 4), a)
	codes, places := fault.Codes(e), fault.Places(e)
	codes[0], places[0] = api.ErrFull, 99
	_ = append(codes[:1], api.ErrFull)
	_ = append(places[:1], 99)
	if !slices.Equal(fault.Codes(e), []api.Errno{api.ErrRow, api.ErrKey, api.ErrKey}) || !slices.Equal(fault.Places(e), []int{4, 3, 3}) {
		t.Errorf("an answer is kept: %v, %v", fault.Codes(e), fault.Places(e))
	}
	if !slices.Equal(fault.Codes(a), []api.Errno{api.ErrKey}) || fault.Deep(a) != 1 {
		t.Errorf("a wrapped fault changed: %v", a)
	}
}

// The texts, and what the library's own calls see.
func TestTextsAndLibrary(t *testing.T) {
	a, b := fault.New(api.ErrKey, 3), fault.New(api.ErrRow, -1)
	w := fault.Wrap(fault.Join(a, b), api.ErrFull, 0)
	if got, want := w.Error(), "fault 62 at 0: (fault 41 at 3; fault 51 at -1)"; got != want {
		t.Errorf("text %q, not %q", got, want)
	}
	if !errors.Is(w, a) || !errors.Is(w, b) || errors.Is(w, fault.New(api.ErrKey, 3)) || errors.Unwrap(a) != nil {
		t.Error("errors.Is goes another way")
	}
	var none *angry
	if errors.As(w, &none) {
		t.Error("errors.As finds what is not there")
	}
}

// The example of README.md.
func TestReadmeExample(t *testing.T) {
	e := fault.Wrap(fault.New(api.ErrSign, 13), api.ErrSyntax, 13)
	if fault.Code(e) != 171 || !fault.Has(e, api.ErrSign) || !slices.Equal(fault.Places(e), []int{13, 13}) {
		t.Errorf("%v: %v", fault.Codes(e), fault.Places(e))
	}
	if got := e.Error(); got != "fault 171 at 13: fault 161 at 13" {
		t.Errorf("text %q", got)
	}
}
