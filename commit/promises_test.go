package commit_test

import (
	"fmt"
	"math"
	"math/rand/v2"
	"slices"
	"sync"
	"testing"

	"frankpledge/api"
	"frankpledge/commit"
)

// trade is a transaction that puts a row of its own at each of its participants.
type trade struct {
	tx          int
	nodes, puts []int
	asked       bool
	voted       map[int]bool // Yes, as its coordinator has heard
	rows, over  map[int]bool // where it was seen to have its row, or to be aborted
}

func (x *trade) key() string { return fmt.Sprint("row of ", x.tx) }
func (x *trade) home() int   { return x.tx % 16 }

// market is a world with trades, about which nothing is known but what the world tells.
type market struct {
	w      *commit.World
	trades []*trade
	said   map[int]bool // the transactions of which a coordinator has told to commit
}

func newMarket(t *testing.T, nodes int) *market {
	t.Helper()
	w, e := commit.New(nodes)
	if e != api.OK {
		t.Fatalf("New = %d", e)
	}
	return &market{w: w, said: map[int]bool{}}
}

// open begins a trade at some nodes. Of so many rows, one is not put.
func (m *market) open(r *rand.Rand, missing int) {
	tx, e := m.w.Start(r.IntN(m.w.Nodes()))
	if e != api.OK {
		return
	}
	x := &trade{tx: tx, voted: map[int]bool{}, rows: map[int]bool{}, over: map[int]bool{}}
	for n := range m.w.Nodes() {
		if r.IntN(2) == 0 || n == m.w.Nodes()-1 && len(x.nodes) == 0 {
			x.nodes = append(x.nodes, n)
			if r.IntN(missing) > 0 && m.w.Put(tx, n, []byte(x.key()), []byte("row")) == api.OK {
				x.puts = append(x.puts, n)
			}
		}
	}
	m.trades = append(m.trades, x)
}

// find is the trade of a transaction.
func (m *market) find(tx int) *trade {
	i := slices.IndexFunc(m.trades, func(x *trade) bool { return x.tx == tx })
	return m.trades[i]
}

// deliver delivers a letter. What its receiver takes of it, the market takes, too.
func (m *market) deliver(t *testing.T, number int) {
	t.Helper()
	l, e := m.w.Look(number)
	if f := m.w.Deliver(number); e != api.OK || f != api.OK {
		t.Fatalf("%v: Look and Deliver = %d, %d", l, e, f)
	}
	if l.Kind == api.Yes {
		m.find(l.Tx).voted[l.From] = true
	}
	m.look(t)
}

// look holds what the world tells against T1 and T3: a transaction has its row at all its
// participants or is in doubt there, if it has it at one; rows stay; and Commit is sent
// only if all have voted Yes.
func (m *market) look(t *testing.T) {
	t.Helper()
	rows := map[int]map[string]string{}
	for n := range m.w.Nodes() {
		rows[n] = rowsOf(t, m.w, n)
	}
	for _, x := range m.trades {
		for _, n := range x.nodes {
			_, put := rows[n][x.key()]
			if x.rows[n] && !put {
				t.Fatalf("transaction %d has lost its row at %d", x.tx, n)
			}
			x.rows[n] = put
			x.over[n] = x.over[n] || m.w.Known(x.tx, n) == 4
			if m.w.Known(x.tx, n) == 3 && !put {
				t.Fatalf("transaction %d is committed at %d, without a row", x.tx, n)
			}
		}
		some := slices.ContainsFunc(x.nodes, func(n int) bool { return x.rows[n] })
		for _, n := range x.nodes {
			if some && (x.over[n] || !x.rows[n] && m.w.Known(x.tx, n) != 2) {
				t.Fatalf("transaction %d of %v has rows at %v, is aborted at %v, and Known(%d) is %d", x.tx, x.nodes, x.rows, x.over, n, m.w.Known(x.tx, n))
			}
			if m.said[x.tx] && !x.rows[n] && m.w.Decided(x.tx) != 2 {
				t.Fatalf("transaction %d was to commit at %d, but Decided is %d", x.tx, n, m.w.Decided(x.tx))
			}
		}
	}
	for _, number := range m.w.Letters() {
		l, _ := m.w.Look(number)
		x := m.find(l.Tx)
		if l.Kind == api.Commit && len(x.voted) < len(x.nodes) {
			t.Fatalf("%v, but only %v voted", l, x.voted)
		}
		m.said[l.Tx] = m.said[l.Tx] || l.Kind == api.Commit
	}
}

// happen is anything that may happen. Of so many steps, one is a loss of power, and one
// is that of a letter.
func (m *market) happen(t *testing.T, r *rand.Rand, losses int) {
	t.Helper()
	letters := m.w.Letters()
	number := 0
	if len(letters) > 0 {
		number = one(r, letters...)
	}
	n := r.IntN(m.w.Nodes())
	switch k := r.IntN(30); {
	case losses > 0 && r.IntN(losses) == 0:
		m.w.Power(n, [2]int{int(r.Uint64()) >> r.IntN(64), int(r.Uint64()) >> r.IntN(64)})
	case losses > 0 && r.IntN(losses) == 0:
		m.w.Lose(number)
	case k < 2 && len(m.trades) < 8:
		m.open(r, 20)
	case k < 6 && len(m.trades) > 0:
		x := one(r, m.trades...)
		x.asked = m.w.Ask(x.tx, x.nodes) == api.OK || x.asked
	case k == 6 && len(m.trades) > 0 && losses > 0:
		m.w.Stop(one(r, m.trades...).tx)
	case k < 9:
		m.w.Twice(number)
	case k < 16:
		m.w.Tick(n)
	case len(letters) > 0:
		m.deliver(t, number)
	}
	m.look(t)
}

// calm delivers all letters, in any order, and lets all nodes tick for a while.
func (m *market) calm(t *testing.T, r *rand.Rand, rounds int) {
	t.Helper()
	for range rounds {
		for l := m.w.Letters(); len(l) > 0; l = m.w.Letters() {
			m.deliver(t, one(r, l...))
		}
		for n := range m.w.Nodes() {
			m.w.Tick(n)
		}
	}
	for l := m.w.Letters(); len(l) > 0; l = m.w.Letters() {
		m.deliver(t, one(r, l...))
	}
}

// P15.2, P15.4, T1, T3, T5: whatever happens, a transaction has its rows everywhere or
// nowhere; and when letters arrive and nodes tick again, it is decided.
func TestAtomicity(t *testing.T) {
	r := rand.New(rand.NewPCG(5, 6))
	commits, aborts, doubts := 0, 0, 0
	for i := range 1500 {
		m := newMarket(t, 1+i%5)
		for range 250 {
			m.happen(t, r, 6+i%40)
		}
		for _, x := range m.trades {
			for _, n := range x.nodes {
				if m.w.Known(x.tx, n) == 2 {
					doubts++
				}
			}
		}
		m.calm(t, r, 2*api.Wait)
		for _, x := range m.trades {
			for _, n := range x.nodes {
				if m.w.Known(x.tx, n) == 2 {
					t.Fatalf("transaction %d is in doubt at %d", x.tx, n)
				}
				if x.rows[n] != x.rows[x.nodes[0]] {
					t.Fatalf("transaction %d of %v has rows at %v", x.tx, x.nodes, x.rows)
				}
			}
			if x.asked && m.w.Decided(x.tx) != 0 {
				t.Fatalf("Decided(%d) = %d", x.tx, m.w.Decided(x.tx))
			}
			if x.rows[x.nodes[0]] {
				commits++
			} else {
				aborts++
			}
		}
	}
	if commits < 2000 || aborts < 2000 || doubts < 1000 {
		t.Errorf("only %d commits, %d aborts, %d in doubt", commits, aborts, doubts)
	}
}

// P15.3: without losses, in whatever order letters arrive, and however often, what is
// asked is committed, if all participants have it.
func TestProgress(t *testing.T) {
	r := rand.New(rand.NewPCG(7, 8))
	commits := 0
	for i := range 600 {
		m := newMarket(t, 1+i%6)
		if i%30 == 0 {
			m = newMarket(t, 16)
		}
		for range 120 {
			m.happen(t, r, 0)
		}
		m.calm(t, r, 0)
		for _, x := range m.trades {
			for _, n := range x.nodes {
				whole := len(x.puts) == len(x.nodes) && x.asked
				want := map[bool]int{true: 3, false: m.w.Known(x.tx, n)}[whole]
				if got := m.w.Known(x.tx, n); got != want || x.rows[n] != whole {
					t.Fatalf("Known(%d, %d) = %d, and %v have rows; asked: %t", x.tx, n, got, x.rows, x.asked)
				}
				if whole && n == x.nodes[0] {
					commits++
				}
			}
			if got := m.w.Decided(x.tx); (got != 0) == x.asked {
				t.Fatalf("Decided(%d) = %d; asked: %t", x.tx, got, x.asked)
			}
		}
	}
	if commits < 1000 {
		t.Errorf("only %d commits", commits)
	}
}

// T1, T3: a commit of two participants, with a loss of power at each of the three nodes
// behind each of its steps, twice, and with each letter lost or doubled.
func TestPowerAnyTime(t *testing.T) {
	for first := range 8 {
		for second := first; second < 8; second++ {
			for a := range 6 {
				for b := range 6 {
					m := newMarket(t, 3)
					tx, _ := m.w.Start(0)
					x := &trade{tx: tx, nodes: []int{1, 2}, voted: map[int]bool{}, rows: map[int]bool{}, over: map[int]bool{}}
					m.trades = append(m.trades, x)
					for _, n := range x.nodes {
						m.w.Put(tx, n, []byte(x.key()), nil)
					}
					m.w.Ask(tx, x.nodes)
					for k := range 8 {
						if k == first {
							m.trouble(a)
						}
						if k == second {
							m.trouble(b)
						}
						m.look(t)
						if l := m.w.Letters(); len(l) > 0 {
							m.deliver(t, l[0])
						}
					}
					m.calm(t, rand.New(rand.NewPCG(9, 10)), 2*api.Wait)
					if m.w.Known(tx, 1) == 2 || m.w.Known(tx, 2) == 2 || x.rows[1] != x.rows[2] || m.w.Decided(tx) != 0 {
						t.Fatalf("%d, %d behind %d, %d: %d and %d, rows at %v", a, b, first, second, m.w.Known(tx, 1), m.w.Known(tx, 2), x.rows)
					}
				}
			}
		}
	}
}

// trouble is a loss of power at a node, or what becomes of the next letter.
func (m *market) trouble(kind int) {
	l := m.w.Letters()
	switch {
	case kind < 3:
		m.w.Power(kind, [2]int{})
	case len(l) == 0:
	case kind == 3:
		m.w.Lose(l[0])
	case kind == 4:
		m.w.Twice(l[0])
	}
}

// Rule 8: on no world, whatever the arguments are.
func TestNil(t *testing.T) {
	for _, w := range []*commit.World{nil, {}} {
		for _, s := range []step{
			start(0), start(-1), start(16), put(0, 0, "a"), put(-1, -1, ""), ask(0, 0), ask(0), ask(-1, 99), stop(0), stop(-1),
			deliver(0), deliver(-1), twice(0), twice(-1), lose(0), lose(-1), tick(0), tick(-1), power(0, 0, 0), power(-1, 1, 1),
		} {
			if got := do(w, s); got != (outcome{e: api.ErrArg}) {
				t.Errorf("%v = %v", s, got)
			}
		}
		for _, n := range []int{-1, 0, 1, 16, math.MinInt, math.MaxInt} {
			if l, e := w.Look(n); e != api.ErrArg || !equal(l, api.Letter{}) {
				t.Errorf("Look(%d) = %v, %d", n, l, e)
			}
			if w.Decided(n) != 0 || w.Known(n, n) != 0 || len(w.Rows(n)) != 0 {
				t.Errorf("Decided = %d, Known = %d, Rows = %v", w.Decided(n), w.Known(n, n), w.Rows(n))
			}
		}
		if w.Nodes() != 0 || len(w.Letters()) != 0 {
			t.Errorf("Nodes = %d, Letters = %v", w.Nodes(), w.Letters())
		}
	}
}

// Rule 4: arguments are neither changed nor kept, nor is memory behind them read.
func TestArguments(t *testing.T) {
	_, w := fresh(t, 3, start(0), start(0), put(0, 1, "key"), put(16, 1, "aux"), put(0, 2, "key"))
	key, row, nodes := []byte("ket+"), []byte("row+"), []int{1, 2, 99, 0}
	if e := w.Put(16, 2, key[:3], row[:3]); e != api.OK {
		t.Fatalf("Put = %d", e)
	}
	if e := w.Ask(0, nodes[:2]); e != api.OK {
		t.Fatalf("Ask = %d", e)
	}
	if string(key) != "ket+" || string(row) != "row+" || !slices.Equal(nodes, []int{1, 2, 99, 0}) {
		t.Errorf("the arguments are now %q, %q, %v", key, row, nodes)
	}
	clear(key)
	clear(row)
	clear(nodes)
	w.Ask(16, []int{2})
	deliverAll(w)
	want := map[string]string{"key": "row", "ket": "row"}
	for k, v := range rowsOf(t, w, 2) {
		if want[k] != v {
			t.Errorf("there is a row %q at %q", v, k)
		}
		delete(want, k)
	}
	if len(want) > 0 || len(w.Rows(1)) != 1 || w.Known(16, 1) != 1 {
		t.Errorf("there is no %v", want)
	}
}

// Rule 4: answers are new memory: whoever changes one changes nothing else.
func TestNewMemory(t *testing.T) {
	m, w := fresh(t, 3, start(0), start(0), put(0, 1, "a"), put(0, 1, "b"), put(16, 2, "a"), ask(0, 1), deliver(0), deliver(1), deliver(2), ask(16, 1, 2))
	for range 2 {
		letters, rows := w.Letters(), w.Rows(1)
		l, _ := w.Look(letters[len(letters)-1])
		again := w.Rows(1)
		for _, x := range rows {
			clear(x.Key[:cap(x.Key)])
			clear(x.Row[:cap(x.Row)])
		}
		if string(again[0].Key) != "a" || string(again[1].Row) != "row" {
			t.Errorf("Rows = %q", again)
		}
		clear(rows[:cap(rows)])
		clear(letters[:cap(letters)])
		clear(l.Nodes[:cap(l.Nodes)])
		m.check(t, w)
	}
	m.follow(t, w, deliver(m.next-1), deliver(m.next-2), tick(0), tick(1), power(1, 0, 0))
	m.check(t, w)
}

// answers tells all that a world answers in a long list of steps, as text.
func answers(t *testing.T) []string {
	r := rand.New(rand.NewPCG(11, 12))
	m, w := fresh(t, 4)
	var l []string
	for range 2000 {
		s := m.anyStep(r, 50)
		m.do(s)
		l = append(l, fmt.Sprint(s, do(w, s), w.Letters(), w.Decided(s.n), w.Known(s.n, s.node), w.Rows(s.node)))
	}
	return l
}

// P2: the same calls answer the same again, also when others call other worlds at the
// same time; and what only tells changes nothing.
func TestSameAgain(t *testing.T) {
	first := answers(t)
	again := make([][]string, 4)
	var wait sync.WaitGroup
	for i := range again {
		wait.Go(func() { again[i] = answers(t) })
	}
	wait.Wait()
	for _, l := range again {
		if !slices.Equal(l, first) {
			t.Error("the same calls have other answers")
		}
	}
}

// The example of README.md.
func TestReadmeExample(t *testing.T) {
	w, e := commit.New(3)
	tx, f := w.Start(0)
	w.Put(tx, 1, []byte("a"), []byte("one"))
	w.Put(tx, 2, []byte("b"), []byte("two"))
	if g := w.Ask(tx, []int{1, 2}); e != api.OK || f != api.OK || g != api.OK {
		t.Errorf("New, Start, Ask = %d, %d, %d", e, f, g)
	}
	if l := w.Letters(); !slices.Equal(l, []int{0, 1}) {
		t.Errorf("Letters = %v", l)
	}
	w.Deliver(0)
	w.Twice(1)
	w.Deliver(3)
	w.Lose(1)
	w.Power(1, [2]int{0, 0})
	if w.Known(tx, 1) != 2 || w.Decided(tx) != 1 || !slices.Equal(w.Letters(), []int{2, 4}) {
		t.Errorf("Known = %d, Decided = %d, Letters = %v", w.Known(tx, 1), w.Decided(tx), w.Letters())
	}
	w.Deliver(2)
	w.Deliver(4)
	l, e := w.Look(5)
	if e != api.OK || !equal(l, post(api.Commit, 0, 1, tx)) || w.Decided(tx) != 2 {
		t.Errorf("Look = %v, %d; Decided = %d", l, e, w.Decided(tx))
	}
	w.Lose(5)
	w.Deliver(6)
	if len(w.Rows(1)) != 0 || len(w.Rows(2)) != 1 {
		t.Errorf("Rows = %q, %q", w.Rows(1), w.Rows(2))
	}
	for range 5 {
		w.Tick(1)
	}
	if l := w.Letters(); !slices.Equal(l, []int{7, 8}) {
		t.Errorf("Letters = %v", l)
	}
	w.Deliver(8)
	w.Deliver(9)
	if rows := w.Rows(1); len(rows) != 1 || string(rows[0].Row) != "one" || w.Known(tx, 1) != 3 {
		t.Errorf("Rows = %q, Known = %d", rows, w.Known(tx, 1))
	}
}
