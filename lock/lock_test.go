package lock_test

import (
	"fmt"
	"math"
	"math/rand/v2"
	"slices"
	"strings"
	"sync"
	"testing"

	"frankpledge/api"
	"frankpledge/lock"
)

// script does steps one by one, and holds each answer against the one by hand.
type script []struct {
	step
	want outcome
}

func (s script) run(t *testing.T) *lock.Locks {
	t.Helper()
	l := lock.New()
	for i, x := range s {
		if got := do(l, x.step); !got.same(x.want) {
			t.Errorf("step %d: %v = %v, not %v", i, x.step, got, x.want)
		}
	}
	return l
}

var (
	yes  = outcome{granted: true}
	wait = outcome{}
)

func fails(e api.Errno) outcome    { return outcome{e: e} }
func grants(txs ...int) outcome    { return outcome{txs: txs} }
func granted(l ...held) []held     { return l }
func narrow(tx int, k string) held { return of(tx, k, k+"\x00", 2) }

// P9.1 (L1): a new lock table is empty, and each one is another one.
func TestNew(t *testing.T) {
	l := lock.New()
	(&model{}).check(t, l, upTo(5)...)
	l.Ask(of(1, "", "", 2).lock())
	(&model{}).check(t, lock.New(), upTo(5)...)
	if ok, e := lock.New().Ask(of(2, "", "", 2).lock()); !ok || e != api.OK {
		t.Errorf("Ask = %v, %d", ok, e)
	}
}

// A lock table that no call made is one without locks.
func TestZero(t *testing.T) {
	var l lock.Locks
	m := &model{}
	m.check(t, &l, upTo(5)...)
	for _, s := range []step{dropOf(1), cancelOf(1), ask(of(1, "a", "", 2)), ask(of(2, "b", "", 1)), dropOf(1)} {
		m.follow(t, &l, s)
		m.check(t, &l, upTo(5)...)
	}
}

// P9.1 (L1): a range that is not valid, or a mode that is none.
func TestAskInvalid(t *testing.T) {
	bad := []held{
		of(1, "a", "a", 1), of(1, "b", "a", 1), of(1, "a\x00", "a", 2), of(1, "\xff", "\xfe\xff", 2), of(1, "\x00", "\x00", 2),
		of(1, "a", "b", 0), of(1, "a", "b", 3), of(1, "a", "b", -1), of(1, "", "", 257), of(1, "", "", 258), of(1, "", "", math.MaxInt), of(1, "", "", math.MinInt),
		of(1, "b", "a", 3), {},
	}
	for _, x := range bad {
		l, m := lock.New(), &model{}
		for _, first := range []step{ask(of(2, "a", "b", 2)), ask(of(1, "c", "d", 2)), ask(of(3, "c", "", 1))} {
			if got := do(l, ask(x)); !got.same(fails(api.ErrArg)) {
				t.Errorf("%v = %v", x, got)
			}
			m.follow(t, l, first)
			m.check(t, l, upTo(5)...)
		}
	}
	for _, x := range []held{of(1, "", "", 1), of(1, "", "\x00", 1), of(1, "a", "a\x00", 2), of(1, "\xff", "", 2), {tx: -1, mode: 1}} {
		if got := do(lock.New(), ask(x)); !got.same(yes) {
			t.Errorf("%v = %v", x, got)
		}
	}
}

// P9.1 (L1): the first of the cases of Ask that applies.
func TestAskCases(t *testing.T) {
	script{
		{ask(of(1, "a", "c", 1)), yes},
		{ask(of(2, "b", "d", 1)), yes},
		{ask(of(2, "a", "c", 2)), wait},
		{ask(of(2, "c", "c", 2)), fails(api.ErrArg)},
		{ask(of(2, "c", "d", 9)), fails(api.ErrArg)},
		{ask(of(2, "x", "y", 2)), fails(api.ErrWaits)},
		{ask(of(2, "b", "d", 1)), fails(api.ErrWaits)}, // also if it is covered
		{ask(of(2, "a", "c", 2)), fails(api.ErrWaits)},
		{ask(of(1, "a", "c", 1)), yes}, // covered: who waits for it doesn't matter
		{ask(of(1, "b", "c", 1)), yes},
		{ask(of(1, "a", "c\x00", 2)), wait},
		{ask(of(3, "a", "b", 1)), wait}, // behind two that wait
		{ask(of(4, "c", "d", 1)), wait}, // behind one of them
		{ask(of(5, "c\x00", "d", 1)), yes},
	}.run(t)
}

// P9.1 (L1): one granted lock covers; several together don't, nor does one of
// another transaction or space, or one that waits.
func TestAskCovered(t *testing.T) {
	l := script{
		{ask(of(1, "a", "b", 2)), yes},
		{ask(of(1, "b", "c", 2)), yes},
		{ask(of(1, "a", "c", 2)), yes},
		{ask(of(1, "a", "c", 1)), yes},
		{ask(held{1, "u", "a", "c", 1}), yes},
		{ask(held{1, "u", "a", "b", 1}), yes},
		{ask(held{1, "u", "a", "b", 2}), yes},
		{ask(held{2, "u", "b", "c", 1}), yes},
		{ask(held{1, "u", "a", "c", 2}), wait},
	}.run(t)
	want := granted(of(1, "a", "b", 2), of(1, "b", "c", 2), of(1, "a", "c", 2), held{1, "u", "a", "c", 1}, held{1, "u", "a", "b", 2})
	if got := texts(l.Granted(1)); !slices.Equal(got, want) {
		t.Errorf("Granted = %v", got)
	}
	if n := len(l.Granted(2)); n != 1 {
		t.Errorf("%d locks", n)
	}
}

// P9.1 (L1): a transaction doesn't stand in its own way, and any number is one.
func TestAskOwn(t *testing.T) {
	for _, tx := range []int{0, 1, -1, 1 << 41, math.MaxInt, math.MinInt} {
		l := script{
			{ask(of(tx, "b", "c", 1)), yes},
			{ask(of(tx, "b", "c", 2)), yes},
			{ask(of(tx, "", "", 2)), yes},
			{ask(of(7, "b", "c", 1)), wait},
			{ask(of(tx, "a", "d", 2)), yes},
			{cancelOf(tx), grants()},
			{dropOf(6), grants()},
			{dropOf(tx), grants(7)},
			{ask(of(tx, "b", "", 2)), wait},
			{cancelOf(tx), grants()},
			{ask(of(tx, "b", "", 1)), yes},
		}.run(t)
		if got := texts(l.Granted(tx)); !slices.Equal(got, granted(of(tx, "b", "", 1))) {
			t.Errorf("Granted = %v", got)
		}
	}
}

// P9.1 (L1): a lock waits behind those that wait already, also where nothing that
// is granted stops it.
func TestNobodyPasses(t *testing.T) {
	script{
		{ask(of(1, "", "", 1)), yes},
		{ask(of(2, "k", "l", 2)), wait},
		{ask(of(3, "", "", 1)), wait},
		{ask(of(4, "k", "l", 1)), wait},
		{ask(of(5, "l", "", 1)), yes},
		{dropOf(1), grants(2)},
		{ask(of(1, "k", "l", 1)), wait},
		{dropOf(2), grants(3, 4, 1)},
	}.run(t)
}

// P9.1 (L2): Drop takes all, granted and waiting ones, and of its transaction alone.
func TestDrop(t *testing.T) {
	l := script{
		{ask(of(1, "a", "b", 2)), yes},
		{ask(of(2, "c", "d", 2)), yes},
		{ask(held{1, "u", "a", "b", 1}), yes},
		{ask(of(1, "c", "d", 1)), wait},
		{ask(of(3, "a", "b", 1)), wait},
		{ask(held{4, "u", "", "", 2}), wait},
		{ask(of(5, "c", "", 1)), wait},
		{dropOf(6), grants()},
		{dropOf(1), grants(3, 4)},
		{dropOf(1), grants()},
		{dropOf(2), grants(5)},
		{ask(of(1, "a", "b", 1)), yes},
	}.run(t)
	if n := len(l.Waiting()); n != 0 {
		t.Errorf("%d wait", n)
	}
	if got := texts(l.Granted(1)); !slices.Equal(got, granted(of(1, "a", "b", 1))) {
		t.Errorf("Granted = %v", got)
	}
}

// P9.1 (L2): Drop of a transaction that only waits lets those behind it go on.
func TestDropWaiting(t *testing.T) {
	script{
		{ask(of(1, "", "", 1)), yes},
		{ask(of(2, "a", "b", 2)), wait},
		{ask(of(3, "a", "c", 1)), wait},
		{dropOf(2), grants(3)},
		{ask(of(2, "a", "b", 2)), wait},
	}.run(t)
}

// P9.1 (L2): Cancel takes the waiting lock alone.
func TestCancel(t *testing.T) {
	l := script{
		{ask(of(1, "", "", 1)), yes},
		{ask(of(2, "k", "l", 1)), yes},
		{cancelOf(2), grants()},
		{ask(of(2, "a", "b", 2)), wait},
		{ask(of(3, "a", "c", 1)), wait},
		{ask(of(4, "c", "d", 2)), wait},
		{ask(of(5, "d", "e", 1)), yes},
		{ask(of(6, "c", "d", 1)), wait},
		{cancelOf(1), grants()},
		{cancelOf(9), grants()},
		{cancelOf(2), grants(3)},
		{cancelOf(2), grants()},
		{cancelOf(6), grants()},
		{cancelOf(4), grants()},
		{ask(of(2, "a", "b", 2)), wait},
	}.run(t)
	if got := texts(l.Granted(2)); !slices.Equal(got, granted(of(2, "k", "l", 1))) {
		t.Errorf("Granted = %v", got)
	}
	if got := texts(l.Waiting()); !slices.Equal(got, granted(of(2, "a", "b", 2))) {
		t.Errorf("Waiting = %v", got)
	}
}

// P9.1 (L2): those that wait are examined in order: one that is granted stops those
// behind it, as one that goes on waiting does.
func TestExamined(t *testing.T) {
	script{
		{ask(of(1, "a", "e", 2)), yes},
		{ask(of(9, "e", "f", 2)), yes},
		{ask(of(2, "a", "b", 2)), wait},
		{ask(of(3, "a", "c", 1)), wait}, // stopped by 2
		{ask(of(4, "b", "c", 2)), wait}, // stopped by 3
		{ask(of(5, "d", "f", 2)), wait}, // stopped by 9
		{ask(of(6, "d", "e", 1)), wait}, // stopped by 5
		{ask(of(7, "c", "d", 1)), wait},
		{ask(of(8, "c", "d", 1)), wait},
		{dropOf(1), grants(2, 7, 8)},
		{dropOf(7), grants()},
		{dropOf(9), grants(5)},
		{dropOf(2), grants(3)},
		{dropOf(3), grants(4)},
		{dropOf(5), grants(6)},
		{dropOf(8), grants()},
		{dropOf(6), grants()},
		{dropOf(4), grants()},
	}.run(t)
}

// P9.1 (L2): Granted is in the order in which locks were granted; Waiting is in the
// order in which they came.
func TestOrders(t *testing.T) {
	l := script{
		{ask(narrow(1, "m")), yes},
		{ask(narrow(3, "n")), yes},
		{ask(narrow(2, "z")), yes},
		{ask(narrow(2, "m")), wait},
		{ask(narrow(4, "n")), wait},
		{dropOf(1), grants(2)},
		{ask(narrow(2, "a")), yes},
		{ask(narrow(1, "a")), wait},
		{ask(narrow(0, "n")), wait},
	}.run(t)
	if got := texts(l.Granted(2)); !slices.Equal(got, granted(narrow(2, "z"), narrow(2, "m"), narrow(2, "a"))) {
		t.Errorf("Granted = %v", got)
	}
	if got := texts(l.Waiting()); !slices.Equal(got, granted(narrow(4, "n"), narrow(1, "a"), narrow(0, "n"))) {
		t.Errorf("Waiting = %v", got)
	}
}

// P9.1 (L1): at MaxLocks, granted and waiting together, there is no room.
func TestFull(t *testing.T) {
	for _, most := range []int{0, 1, 2, 500, 1022, 1023} { // of those that wait
		l, m := lock.New(), &model{}
		m.follow(t, l, ask(of(1, "", "", 1)))
		for i := range 1023 - most {
			m.follow(t, l, ask(narrow(2, fmt.Sprintf("%04d", i))))
			l.Cancel(2)
			m.do(cancelOf(2))
			m.follow(t, l, ask(of(1, fmt.Sprintf("%04d", i), fmt.Sprintf("%04d!", i), 2)))
		}
		for i := range most {
			m.follow(t, l, ask(of(10+i, "k", "", 2)))
		}
		if len(m.granted)+len(m.waiting) != api.MaxLocks {
			t.Fatalf("%d granted, %d wait", len(m.granted), len(m.waiting))
		}
		for _, c := range []struct {
			x    held
			want outcome
		}{
			{of(5, "a", "b", 1), fails(api.ErrFull)},
			{of(5, "k", "", 2), fails(api.ErrFull)},
			{held{5, "u", "", "", 2}, fails(api.ErrFull)},
			{of(1, "", "\x00", 2), fails(api.ErrFull)},
			{of(1, "a", "b", 1), yes},
			{of(1, "", "", 1), yes},
			{of(5, "b", "a", 1), fails(api.ErrArg)},
			{of(5, "a", "b", 4), fails(api.ErrArg)},
		} {
			if got := m.follow(t, l, ask(c.x)); !got.same(c.want) {
				t.Errorf("%v = %v", c.x, got)
			}
		}
		if most > 0 {
			m.follow(t, l, ask(of(10, "", "", 1)))
			m.follow(t, l, ask(of(9+most, "b", "a", 1)))
		}
		m.check(t, l, 0, 1, 2, 5, 10, 9+most)
		checkRoom(t, l, m, most)
	}
}

// checkRoom makes room in a full lock table, for one lock that waits if any does,
// and then for all.
func checkRoom(t *testing.T, l *lock.Locks, m *model, waiting int) {
	t.Helper()
	if waiting > 0 {
		m.follow(t, l, cancelOf(10))
		m.follow(t, l, ask(of(5, "k", "", 1)))
		m.follow(t, l, ask(of(6, "k", "", 1)))
	}
	m.follow(t, l, dropOf(1))
	m.follow(t, l, dropOf(5))
	m.follow(t, l, ask(of(6, "a", "b", 2)))
	m.check(t, l, upTo(20)...)
	for tx := range 2000 {
		m.follow(t, l, dropOf(tx))
	}
	m.check(t, l, upTo(2000)...)
	if len(m.granted)+len(m.waiting) != 0 {
		t.Fatalf("%d granted, %d wait", len(m.granted), len(m.waiting))
	}
	for i := range 1024 {
		m.follow(t, l, ask(narrow(i, fmt.Sprint(i))))
	}
	m.follow(t, l, ask(narrow(2000, "a")))
	m.check(t, l, upTo(2001)...)
}

// P9.1: no lock table.
func TestNil(t *testing.T) {
	var l *lock.Locks
	for _, x := range []held{{}, of(1, "", "", 1), of(1, "b", "a", 9), of(-1, "a", "", 2)} {
		if ok, e := l.Ask(x.lock()); ok || e != api.ErrArg {
			t.Errorf("Ask = %v, %d", ok, e)
		}
	}
	for _, tx := range []int{0, 1, -1, math.MaxInt, math.MinInt} {
		if l.Drop(tx) != nil || l.Cancel(tx) != nil || l.Granted(tx) != nil {
			t.Errorf("of transaction %d there is something", tx)
		}
	}
	if l.Waiting() != nil {
		t.Error("something waits")
	}
}

// P9.1 to P9.3: all short lists of steps, with all that may be told of the lock
// table.
func TestAllShortHistories(t *testing.T) {
	var wide []step
	for tx := range 3 {
		wide = append(wide, ask(of(tx, "a", "c", 1)), ask(of(tx, "b", "d", 2)), ask(of(tx, "b", "", 1)), ask(of(tx, "", "b", 2)), dropOf(tx), cancelOf(tx))
	}
	var deep []step
	for tx := range 3 {
		deep = append(deep, ask(of(tx, "", "b", api.Mode(2-tx%2))), dropOf(tx))
	}
	deep = append(deep, ask(of(1, "a", "", 2)), cancelOf(1))
	for most, all := range map[int][]step{4: wide, 6: deep} {
		count := 0
		histories(all, most, func(steps []step) {
			l, m := lock.New(), &model{}
			for _, s := range steps {
				m.follow(t, l, s)
			}
			m.check(t, l, 0, 1, 2, 3)
			checkPromises(t, l, 0, 1, 2)
			count++
		})
		if count < 100000 {
			t.Errorf("only %d histories", count)
		}
	}
}

// P9.1 to P9.3: long lists of steps.
func TestLongHistories(t *testing.T) {
	r := rand.New(rand.NewPCG(1, 2))
	waited := 0
	for _, c := range []struct{ txs, keys, end int }{{3, 4, 20}, {5, 8, 10}, {10, 30, 10}, {30, 100, 8}, {60, 60, 15}} {
		l, m := lock.New(), &model{}
		for i := range 8000 {
			m.follow(t, l, anyStep(r, c.txs, c.keys, c.end))
			waited = max(waited, len(m.waiting))
			if i%20 == 0 || c.txs < 10 {
				m.check(t, l, upTo(c.txs)...)
				checkPromises(t, l, upTo(c.txs)...)
			}
		}
	}
	if waited < 20 {
		t.Errorf("at most %d wait", waited)
	}
}

// P9.1 to P9.3: lock tables that become full.
func TestFullHistories(t *testing.T) {
	r := rand.New(rand.NewPCG(3, 4))
	full := 0
	for _, c := range []struct{ txs, keys int }{{2000, 1000}, {700, 5000}, {3000, 300}} {
		l, m := lock.New(), &model{}
		for i := range 5000 {
			s := anyStep(r, c.txs, c.keys, 1)
			if s.lock.from == "" || s.lock.to == "" {
				s.lock.from, s.lock.to = "x", "y"
			}
			if m.follow(t, l, s).e == api.ErrFull {
				full++
			}
			if i%1000 == 999 {
				m.check(t, l, upTo(c.txs)...)
				checkPromises(t, l, upTo(c.txs)...)
			}
		}
	}
	if full < 100 {
		t.Errorf("only %d times full", full)
	}
}

// P9.3: whoever waits is granted when those that it waits for have gone, in whatever
// order.
func TestAllGranted(t *testing.T) {
	r := rand.New(rand.NewPCG(5, 6))
	for range 300 {
		l := lock.New()
		for range 60 {
			l.Ask(anyLock(r, 20, 10).lock())
		}
		all := len(l.Waiting())
		gone := 0
		for len(l.Waiting()) > 0 {
			n := len(l.Waiting())
			for _, tx := range r.Perm(20) {
				if !waits(l, tx) {
					gone += len(l.Drop(tx))
					checkPromises(t, l, upTo(20)...)
				}
			}
			// Those that wait for each other never go on by themselves.
			if len(l.Waiting()) == n {
				gone += 1 + len(l.Cancel(l.Waiting()[0].Tx))
				checkPromises(t, l, upTo(20)...)
			}
		}
		if all == 0 || gone != all {
			t.Fatalf("of %d that waited, %d were granted or cancelled", all, gone)
		}
	}
}

// waits tells whether a transaction does.
func waits(l *lock.Locks, tx int) bool {
	return slices.ContainsFunc(l.Waiting(), func(x lock.Lock) bool { return x.Tx == tx })
}

// P9.1 to P9.3: any ranges of few keys, with one the next one of another.
func TestAnyRanges(t *testing.T) {
	r := rand.New(rand.NewPCG(7, 8))
	all := ranges()
	l, m := lock.New(), &model{}
	for range 20000 {
		x := all[r.IntN(len(all))]
		x.tx, x.mode = r.IntN(4), api.Mode(1+r.IntN(2))
		s := []step{ask(x), ask(x), ask(x), dropOf(x.tx), cancelOf(x.tx)}[r.IntN(5)]
		m.follow(t, l, s)
		m.check(t, l, 0, 1, 2, 3)
		checkPromises(t, l, 0, 1, 2, 3)
	}
}

// Rule 3: a call with an error changes nothing, nor does a lock that is covered.
func TestErrorsChangeNothing(t *testing.T) {
	r := rand.New(rand.NewPCG(9, 10))
	l, m := lock.New(), &model{}
	counts := map[api.Errno]int{}
	for range 20000 {
		s := anyStep(r, 6, 6, 15)
		before := fmt.Sprint(m.granted, m.waiting)
		o := m.follow(t, l, s)
		counts[o.e]++
		if o.e != api.OK && fmt.Sprint(m.granted, m.waiting) != before {
			t.Fatalf("%v changes %s", s, before)
		}
		m.check(t, l, upTo(6)...)
	}
	if counts[api.ErrArg] < 100 || counts[api.ErrWaits] < 100 {
		t.Errorf("errors: %v", counts)
	}
}

// Rule 4: arguments are neither changed nor kept, nor reached behind their end.
func TestArguments(t *testing.T) {
	l, m := lock.New(), &model{}
	for i := range 200 {
		x := of(i, fmt.Sprintf("%03d", i/2), fmt.Sprintf("%03d", i/2+3), api.Mode(1+i%2))
		y := x.lock()
		from, to := []byte(x.from+"behind"), []byte(x.to+"behind")
		y.From, y.To = from[:3], to[:3]
		l.Ask(y)
		l.Ask(y)
		lock.Clash(y, y)
		m.do(ask(x))
		if string(from) != x.from+"behind" || string(to) != x.to+"behind" {
			t.Fatalf("arguments are %q, %q", from, to)
		}
		clear(from)
		clear(to)
	}
	m.check(t, l, upTo(200)...)
	same := []byte("same")
	if ok, e := l.Ask(lock.Lock{Tx: 300, Space: "u", From: same[:2], To: same, Mode: 2}); !ok || e != api.OK {
		t.Errorf("Ask = %v, %d", ok, e)
	}
	m.do(ask(held{300, "u", "sa", "same", 2}))
	clear(same)
	m.check(t, l, 300)
	for tx := range 200 {
		m.follow(t, l, dropOf(tx))
	}
	m.check(t, l, 300)
}

// spoil overwrites locks, with all the room behind them.
func spoil(l []lock.Lock) {
	for _, x := range l {
		for _, b := range [][]byte{x.From, x.To} {
			for i := range b[:cap(b)] {
				b[:cap(b)][i] = 'x'
			}
		}
	}
	clear(l[:cap(l)])
}

// Rule 4: answers are new memory, with all the room behind them.
func TestNewMemory(t *testing.T) {
	l, m := lock.New(), &model{}
	for i := range 50 {
		m.follow(t, l, ask(of(i%5, fmt.Sprintf("%03d", i), fmt.Sprintf("%03d", i+1), 2)))
		m.follow(t, l, ask(of(100+i, "", fmt.Sprintf("%03d", i), 1)))
	}
	for tx := range 5 {
		first, second := l.Granted(tx), l.Granted(tx)
		want := texts(second)
		for i := range first {
			spoil(first[i : i+1 : i+1])
			if len(first) > i+1 && !slices.Equal(texts(first[i+1:]), want[i+1:]) {
				t.Fatalf("locks of one answer share memory: %v", texts(first))
			}
		}
		if !slices.Equal(texts(second), want) {
			t.Fatalf("two answers share memory: %v", texts(second))
		}
		spoil(second)
	}
	spoil(l.Waiting())
	m.check(t, l, upTo(150)...)
	txs := l.Drop(0)
	want := m.do(dropOf(0)).txs
	if !slices.Equal(txs, want) {
		t.Fatalf("Drop = %v, not %v", txs, want)
	}
	clear(txs[:cap(txs)])
	txs = l.Cancel(101)
	m.do(cancelOf(101))
	clear(txs[:cap(txs)])
	m.check(t, l, upTo(150)...)
}

// Rule 4: the two ends of a lock in an answer don't share memory, either.
func TestNewMemoryEnds(t *testing.T) {
	b := []byte("ab")
	l := lock.New()
	l.Ask(lock.Lock{Tx: 1, From: b[:1], To: b, Mode: 2})
	l.Ask(lock.Lock{Tx: 2, From: b[:1], To: b, Mode: 2})
	for _, x := range append(l.Granted(1), l.Waiting()...) {
		for i := range x.From[:cap(x.From)] {
			x.From[:cap(x.From)][i] = 'x'
		}
		if string(x.To) != "ab" {
			t.Errorf("the end of transaction %d's lock is %q", x.Tx, x.To)
		}
	}
}

// Rule 4: later calls leave earlier answers as they were.
func TestAnswersStay(t *testing.T) {
	l := lock.New()
	for i := range 20 {
		l.Ask(of(i, "a", "b", 1).lock())
		l.Ask(of(1, fmt.Sprintf("k%02d", i), "", 2).lock())
	}
	for i := range 20 {
		l.Ask(of(50+i, "a", "b", api.Mode(2-i%2)).lock())
	}
	granted, waiting := l.Granted(1), l.Waiting()
	before := fmt.Sprint(granted, waiting)
	var lists [][]int
	var want []string
	for tx := range 80 {
		lists = append(lists, l.Drop(tx), l.Cancel(tx))
		want = append(want, fmt.Sprint(lists[2*tx]), fmt.Sprint(lists[2*tx+1]))
		l.Ask(of(100+tx, "later", "", 2).lock())
	}
	if fmt.Sprint(granted, waiting) != before {
		t.Errorf("answers are changed to %v, %v", granted, waiting)
	}
	for i, x := range lists {
		if fmt.Sprint(x) != want[i] {
			t.Errorf("an answer is changed from %s to %v", want[i], x)
		}
	}
}

// Asking a lock table for what it has changes nothing, also if several ask at a
// time.
func TestTellingChangesNothing(t *testing.T) {
	l, m := lock.New(), &model{}
	for i := range 100 {
		m.follow(t, l, ask(of(i%30, fmt.Sprintf("%02d", i%40), "", api.Mode(1+i%2))))
	}
	var wait sync.WaitGroup
	for range 4 {
		wait.Go(func() {
			for tx := range 100 {
				l.Granted(tx)
				l.Waiting()
				lock.Clash(of(tx, "a", "", 2).lock(), of(1, "", "", 1).lock())
			}
		})
	}
	wait.Wait()
	m.check(t, l, upTo(100)...)
}

// P1: long keys and names: a lock table has no limits of its own but MaxLocks.
func TestLongKeys(t *testing.T) {
	long := strings.Repeat("ab", 1<<19)
	l, m := lock.New(), &model{}
	for _, s := range []step{
		ask(of(1, long, long+"\x00", 2)), ask(of(2, long+"\x00", "", 2)), ask(of(3, long[1:], long, 1)), ask(of(3, "", long, 1)),
		ask(held{4, long, long, "", 2}), ask(held{4, long + "t", long, "", 2}), ask(of(5, long, "", 2)), dropOf(1), dropOf(2), cancelOf(5),
	} {
		m.follow(t, l, s)
		m.check(t, l, upTo(6)...)
	}
}

// P1: full lock tables answer in time, whoever waits for whom.
func TestManyLocks(t *testing.T) {
	for _, distance := range []int{1, 7, 500} {
		l := lock.New()
		for i := range api.MaxLocks {
			from := fmt.Sprintf("%05d", i/distance*distance)
			l.Ask(lock.Lock{Tx: i, Space: "t", From: []byte(from), To: fmt.Appendf(nil, "%05d", i+distance), Mode: 2})
		}
		waits := len(l.Waiting())
		for tx := range api.MaxLocks {
			waits -= len(l.Drop(tx))
		}
		if waits != 0 || len(l.Waiting()) != 0 {
			t.Errorf("distance %d: %d wait, and %d of them were not granted", distance, len(l.Waiting()), waits)
		}
	}
}

// answers are those of a history, as text.
func answers() []string {
	var texts []string
	r := rand.New(rand.NewPCG(11, 12))
	l := lock.New()
	for range 5000 {
		s := anyStep(r, 10, 20, 12)
		texts = append(texts, fmt.Sprint(do(l, s), l.Granted(s.lock.tx), l.Waiting()))
	}
	return texts
}

// P1, P2: no call panics, and calls on other lock tables that came before, or go on
// meanwhile, change no answer.
func TestSameAgain(t *testing.T) {
	first := answers()
	again := make([][]string, 4)
	var wait sync.WaitGroup
	for i := range again {
		wait.Go(func() { again[i] = answers() })
	}
	wait.Wait()
	for _, l := range again {
		if !slices.Equal(l, first) {
			t.Error("the same calls have other answers")
		}
	}
}

// The example of README.md.
func TestReadmeExample(t *testing.T) {
	l := script{
		{ask(of(1, "a", "c", api.Shared)), yes},
		{ask(of(2, "b", "d", api.Shared)), yes},
		{ask(of(3, "c", "", api.Exclusive)), wait},
		{ask(of(4, "x", "y", api.Shared)), wait},
		{ask(of(3, "a", "b", api.Shared)), fails(api.ErrWaits)},
		{ask(of(1, "b", "c", api.Shared)), yes},
		{dropOf(2), grants(3)},
		{cancelOf(4), grants()},
	}.run(t)
	if n := len(l.Waiting()); n != 0 {
		t.Errorf("%d wait", n)
	}
	if lock.Clash(of(1, "a", "b", 2).lock(), of(2, "b", "", 2).lock()) {
		t.Error("ranges that touch conflict")
	}
}
