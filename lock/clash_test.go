package lock_test

import (
	"math"
	"testing"

	"frankpledge/api"
	"frankpledge/lock"
)

// P9.1 (L1): conflicts by hand.
func TestClash(t *testing.T) {
	x := of(1, "b", "d", 2)
	for _, c := range []struct {
		y    held
		want bool
	}{
		{of(2, "b", "d", 2), true},
		{of(2, "b", "d", 1), true},
		{of(1, "b", "d", 2), false},
		{held{2, "u", "b", "d", 2}, false},
		{held{2, "", "b", "d", 2}, false},
		{held{2, "t\x00", "b", "d", 2}, false},
		{of(2, "", "", 2), true},
		{of(2, "", "b", 2), false},
		{of(2, "", "b\x00", 2), true},
		{of(2, "a", "c", 2), true},
		{of(2, "c", "", 2), true},
		{of(2, "c", "c\x00", 2), true},
		{of(2, "cz", "d", 2), true},
		{of(2, "d", "", 2), false},
		{of(2, "d", "e", 2), false},
		{of(2, "c\xff\xff", "e", 2), true},
		{of(-2, "c", "", 2), true},
		{of(math.MinInt, "c", "", 2), true},
		{of(math.MaxInt, "a", "z", 2), true},
	} {
		if lock.Clash(x.lock(), c.y.lock()) != c.want || lock.Clash(c.y.lock(), x.lock()) != c.want {
			t.Errorf("%v and %v: %v", x, c.y, !c.want)
		}
	}
}

// P9.1 (L1): not both are Shared. One that is no mode is not Shared.
func TestClashModes(t *testing.T) {
	modes := []api.Mode{api.Shared, api.Exclusive, 0, 3, -1, 257, math.MaxInt, math.MinInt}
	for _, m := range modes {
		for _, n := range modes {
			want := m != api.Shared || n != api.Shared
			if got := lock.Clash(of(1, "a", "c", m).lock(), of(2, "b", "", n).lock()); got != want {
				t.Errorf("modes %d and %d: %v", m, n, got)
			}
			if lock.Clash(of(1, "a", "c", m).lock(), of(1, "b", "", n).lock()) {
				t.Errorf("modes %d and %d of one transaction", m, n)
			}
		}
	}
}

// P9.1 (L1): any two ranges conflict just if some key is in both; one that is not
// valid has no keys.
func TestClashRanges(t *testing.T) {
	keys := more()
	for _, x := range ranges() {
		for _, y := range ranges() {
			y.tx = 1
			want := false
			for _, k := range keys {
				want = want || x.has(k) && y.has(k)
			}
			if got := lock.Clash(x.lock(), y.lock()); got != want {
				t.Fatalf("%v and %v: %v", x, y, got)
			}
			if conflict(x, y) != want {
				t.Fatalf("the model: %v and %v: %v", x, y, !want)
			}
		}
	}
}

// Rule 6: a range without bytes at its ends, nil or not.
func TestClashEmpty(t *testing.T) {
	for _, a := range [][]byte{nil, {}} {
		for _, b := range [][]byte{nil, {}} {
			x := lock.Lock{Tx: 1, From: a, To: b, Mode: 2}
			y := lock.Lock{Tx: 2, From: b, To: a, Mode: 1}
			if !lock.Clash(x, y) || !lock.Clash(x, lock.Lock{Tx: 2, From: a, To: []byte{0}}) || lock.Clash(x, x) {
				t.Errorf("%v and %v", x, y)
			}
		}
	}
}

// P1: locks without anything in them.
func TestClashZero(t *testing.T) {
	if lock.Clash(lock.Lock{}, lock.Lock{}) {
		t.Error("two locks of one transaction")
	}
	if !lock.Clash(lock.Lock{}, lock.Lock{Tx: 1}) {
		t.Error("two locks that are not Shared")
	}
}

// P9.1 (L1): a lock is covered just if a granted one of its transaction has all
// its keys, and allows what it does.
func TestCovers(t *testing.T) {
	keys := more()
	for _, x := range ranges() {
		if !x.valid() {
			continue
		}
		for _, y := range ranges() {
			if !y.valid() {
				continue
			}
			inside := x.to == "" || y.to != ""
			for _, k := range keys {
				inside = inside && (x.has(k) || !y.has(k))
			}
			for _, modes := range [][2]api.Mode{{1, 1}, {1, 2}, {2, 1}, {2, 2}} {
				x.mode, y.mode = modes[0], modes[1]
				checkCovered(t, x, y, inside && (x.mode == y.mode || x.mode == 2))
			}
		}
	}
}

// checkCovered tells by what is granted whether a lock was covered by another one.
func checkCovered(t *testing.T, x, y held, want bool) {
	t.Helper()
	if covers(x, y) != want {
		t.Fatalf("the model: %v covers %v: %v", x, y, !want)
	}
	l := lock.New()
	l.Ask(x.lock())
	got, e := l.Ask(y.lock())
	if !got || e != api.OK || len(l.Waiting()) != 0 {
		t.Fatalf("%v beside %v: %v, %d", y, x, got, e)
	}
	if n := len(l.Granted(0)); (n == 1) != want || (n == 2) == want {
		t.Fatalf("%v covers %v: %d locks", x, y, n)
	}
}
