package commit_test

import (
	"math"
	"math/rand/v2"
	"slices"
	"testing"

	"frankpledge/api"
	"frankpledge/commit"
)

// line is a step of a script, with the answer and the letters that it sends, by hand.
type line struct {
	step
	want    outcome
	letters []api.Letter
}

// fine is a step that answers OK and sends letters.
func fine(s step, letters ...api.Letter) line { return line{step: s, letters: letters} }

// wrong is a step that answers an error and sends none.
func wrong(s step, e api.Errno) line { return line{step: s, want: outcome{e: e}} }

// begins is a step that starts a transaction.
func begins(node, tx int) line { return line{step: start(node), want: outcome{n: tx}} }

// run does steps one by one on a world, and holds each answer, and the letters that are
// in transit only since then, against those by hand. Each has the number next to that of
// the one ahead of it.
func run(t *testing.T, w *commit.World, lines ...line) {
	t.Helper()
	for i, x := range lines {
		before := w.Letters()
		if got := do(w, x.step); got != x.want {
			t.Errorf("line %d: %v = %v, not %v", i, x.step, got, x.want)
		}
		if got := sent(w, before); !slices.EqualFunc(got, x.letters, equal) {
			t.Errorf("line %d: %v sends %v, not %v", i, x.step, got, x.letters)
		}
	}
}

// sent are the letters in transit that were not there before, in order.
func sent(w *commit.World, before []int) []api.Letter {
	var l []api.Letter
	for _, number := range w.Letters() {
		if !slices.Contains(before, number) {
			x, _ := w.Look(number)
			l = append(l, x)
		}
	}
	return l
}

// ticks does so many ticks at a node, of which the last one alone sends letters.
func ticks(t *testing.T, w *commit.World, node, n int, letters ...api.Letter) {
	t.Helper()
	for range n - 1 {
		run(t, w, fine(tick(node)))
	}
	run(t, w, fine(tick(node), letters...))
}

// knows holds what is known of a transaction at each node against what is to be, and
// what its coordinator knows.
func knows(t *testing.T, w *commit.World, tx, decided int, known ...int) {
	t.Helper()
	if got := w.Decided(tx); got != decided {
		t.Errorf("Decided(%d) = %d, not %d", tx, got, decided)
	}
	for node, want := range known {
		if got := w.Known(tx, node); got != want {
			t.Errorf("Known(%d, %d) = %d, not %d", tx, node, got, want)
		}
	}
}

// deliverAll delivers all letters, the least number first.
func deliverAll(w *commit.World) {
	for l := w.Letters(); len(l) > 0; l = w.Letters() {
		w.Deliver(l[0])
	}
}

// P15.1 (G1, G2): a commit by hand.
func TestCommit(t *testing.T) {
	w, e := commit.New(3)
	if w == nil || e != api.OK || w.Nodes() != 3 || len(w.Letters()) != 0 {
		t.Fatalf("New = %v, %d; %d nodes", w, e, w.Nodes())
	}
	run(t, w,
		begins(2, 2), begins(2, 18), begins(0, 0),
		fine(put(18, 0, "a")), fine(put(18, 2, "b")), fine(put(18, 0, "c")),
		fine(ask(18, 0, 2), post(1, 2, 0, 18, 0, 2), post(1, 2, 2, 18, 0, 2)),
		fine(deliver(1), post(api.Yes, 2, 2, 18)),
		fine(deliver(0), post(api.Yes, 0, 2, 18)),
		fine(deliver(3)),
	)
	knows(t, w, 18, 1, 2, 0, 2)
	run(t, w, fine(deliver(2), post(api.Commit, 2, 0, 18), post(api.Commit, 2, 2, 18)))
	knows(t, w, 18, 2, 2, 0, 2)
	if len(w.Rows(0)) != 0 || len(w.Rows(2)) != 0 {
		t.Error("there are rows ahead of the Commit")
	}
	run(t, w,
		fine(deliver(4), post(api.Done, 0, 2, 18)),
		fine(deliver(6)),
		fine(deliver(5), post(api.Done, 2, 2, 18)),
	)
	knows(t, w, 18, 2, 3, 0, 3)
	run(t, w, fine(deliver(7)), wrong(deliver(7), api.ErrNoLetter))
	knows(t, w, 18, 0, 3, 0, 3)
	for node, want := range []int{2, 0, 1} {
		if got := rowsOf(t, w, node); len(got) != want {
			t.Errorf("node %d has %v", node, got)
		}
	}
	if l := w.Rows(2); string(l[0].Key) != "b" || string(l[0].Row) != "row" {
		t.Errorf("Rows = %q", l)
	}
}

// P15.1 (G1, G2): a No aborts, and so does Stop, whether it was asked or not.
func TestAbort(t *testing.T) {
	_, w := fresh(t, 3)
	run(t, w,
		begins(1, 1), begins(1, 17), begins(1, 33), fine(put(1, 0, "a")), fine(put(1, 1, "a")),
		fine(ask(1, 0, 1, 2), post(1, 1, 0, 1, 0, 1, 2), post(1, 1, 1, 1, 0, 1, 2), post(1, 1, 2, 1, 0, 1, 2)),
		fine(deliver(0), post(api.Yes, 0, 1, 1)),
		fine(deliver(2), post(api.No, 2, 1, 1)),
		fine(deliver(4), post(api.Abort, 1, 0, 1), post(api.Abort, 1, 1, 1)),
	)
	knows(t, w, 1, 0, 2, 1, 0)
	run(t, w, fine(deliver(5)), fine(deliver(6)), fine(deliver(1), post(api.No, 1, 1, 1)), fine(deliver(3), post(api.Abort, 1, 0, 1)), fine(deliver(7)), fine(deliver(8)))
	knows(t, w, 1, 0, 4, 4, 0)
	run(t, w,
		fine(stop(17)), wrong(stop(17), api.ErrState), wrong(ask(17, 0), api.ErrState),
		fine(put(33, 2, "b")), fine(ask(33, 2), post(1, 1, 2, 33, 2)), fine(stop(33), post(api.Abort, 1, 2, 33)), wrong(stop(33), api.ErrState),
	)
	knows(t, w, 33, 0, 0, 0, 1)
	deliverAll(w)
	knows(t, w, 33, 0, 0, 0, 4)
	for node := range 3 {
		if got := w.Rows(node); len(got) != 0 {
			t.Errorf("node %d has %q", node, got)
		}
	}
}

// P15.1 (G1): from 1 to 16 nodes; all other numbers are no world.
func TestNew(t *testing.T) {
	for nodes := -20; nodes < 40; nodes++ {
		w, e := commit.New(nodes)
		if nodes < 1 || nodes > 16 {
			if w != nil || e != api.ErrArg {
				t.Errorf("New(%d) = %v, %d", nodes, w, e)
			}
			continue
		}
		if e != api.OK || w.Nodes() != nodes {
			t.Fatalf("New(%d) = %d; it has %d", nodes, e, w.Nodes())
		}
		for node := range 16 {
			want := outcome{n: node}
			if node >= nodes {
				want = outcome{e: api.ErrNode}
			}
			if got := do(w, start(node)); got != want {
				t.Errorf("of %d nodes: Start(%d) = %v", nodes, node, got)
			}
		}
	}
	for _, nodes := range []int{math.MinInt, math.MaxInt, 1 << 32, 1<<32 + 1, -1 << 32} {
		if w, e := commit.New(nodes); w != nil || e != api.ErrArg || w.Nodes() != 0 {
			t.Errorf("New(%d) = %v, %d", nodes, w, e)
		}
	}
}

// P15.1 (G1): nodes that are not there, and transactions of such nodes: that comes ahead
// of all other errors. Put asks for the node alone that it names.
func TestErrNode(t *testing.T) {
	for _, nodes := range []int{1, 3, 15, 16} {
		m, w := fresh(t, nodes, start(0), put(0, 0, "a"), put(7, 0, "a"))
		long := put(0, 0, string(make([]byte, 201)))
		for _, node := range []int{-1, nodes, nodes + 1, 16, 17, -16, math.MinInt, math.MaxInt, 1 << 32} {
			long.node = node
			run(t, w,
				wrong(start(node), api.ErrNode), wrong(put(0, node, "a"), api.ErrNode), wrong(put(-1, node, "a"), api.ErrNode), wrong(long, api.ErrNode),
				wrong(ask(0, node), api.ErrNode), wrong(ask(0, 0, node), api.ErrNode), wrong(ask(0, node, 0), api.ErrNode), wrong(ask(16, node), api.ErrNode),
				wrong(ask(0, 0, 0, node), api.ErrNode), wrong(tick(node), api.ErrNode), wrong(power(node, 0, 0), api.ErrNode),
			)
			if got := w.Rows(node); len(got) != 0 {
				t.Errorf("Rows(%d) = %q", node, got)
			}
			knows(t, w, 0, 1, 1)
			if got := w.Known(0, node); got != 0 {
				t.Errorf("Known(0, %d) = %d", node, got)
			}
		}
		for _, tx := range []int{-1, -16, -15, math.MinInt, nodes, nodes + 16, 15 + 16*5, 1<<40 + 15} {
			if tx >= 0 && tx%16 < nodes {
				continue
			}
			run(t, w, wrong(ask(tx, 0), api.ErrNode), wrong(ask(tx), api.ErrNode), wrong(stop(tx), api.ErrNode))
			knows(t, w, tx, 0)
		}
		m.check(t, w)
	}
	_, w := fresh(t, 3)
	run(t, w, fine(put(7, 1, "a")), fine(put(15, 1, "a")), fine(put(1<<40, 1, "a")), wrong(put(1<<40+1, 1, "a"), api.ErrArg), wrong(put(-1, 1, "a"), api.ErrArg))
	knows(t, w, 7, 0, 0, 1, 0)
	knows(t, w, 1<<40+1, 0, 0, 0, 0)
}

// P15.1 (G1): Ask has the errors of the coordinator.
func TestAskErrors(t *testing.T) {
	m, w := fresh(t, 3)
	run(t, w,
		wrong(ask(1, 0, 1), api.ErrState), wrong(ask(1), api.ErrState), wrong(stop(1), api.ErrState),
		begins(1, 1), wrong(ask(1), api.ErrArg), wrong(ask(1, 1, 0), api.ErrArg), wrong(ask(1, 2, 2), api.ErrArg), wrong(ask(17, 0), api.ErrState),
	)
	m.do(start(1))
	m.check(t, w)
	run(t, w, fine(ask(1, 0), post(1, 1, 0, 1, 0)), wrong(ask(1, 0), api.ErrState), wrong(ask(1, 1, 0), api.ErrState))
	run(t, w, wrong(stop(1<<41+1), api.ErrState), wrong(ask(1<<41+1, 0), api.ErrState))
}

// P15.1 (G1): Put has the errors of the shard; for a row that can't be put, no
// transaction begins.
func TestPutErrors(t *testing.T) {
	sized := func(tx, key, row int) step {
		return step{name: "Put", n: tx, key: string(make([]byte, key)), row: string(make([]byte, row))}
	}
	m, w := fresh(t, 2, start(0), start(0), start(0))
	run(t, w, wrong(sized(0, 201, 0), api.ErrArg), wrong(sized(0, 0, 2001), api.ErrArg), wrong(sized(-1, 201, 0), api.ErrArg), wrong(sized(1<<40+1, 0, 0), api.ErrArg))
	knows(t, w, 0, 1, 0, 0)
	m.check(t, w)
	run(t, w, fine(ask(0, 0), post(1, 0, 0, 0, 0)), fine(deliver(0), post(api.No, 0, 0, 0)), fine(deliver(1)))
	run(t, w, fine(sized(16, 200, 2000)), fine(sized(16, 0, 0)), wrong(sized(16, 201, 0), api.ErrArg), wrong(sized(16, 0, 2001), api.ErrArg))
	knows(t, w, 16, 1, 1, 0)
	run(t, w,
		fine(ask(16, 0), post(1, 0, 0, 16, 0)), fine(deliver(2), post(api.Yes, 0, 0, 16)),
		wrong(sized(16, 0, 0), api.ErrDoubt), wrong(sized(16, 201, 0), api.ErrDoubt), fine(put(16, 1, "a")),
		fine(deliver(3), post(api.Commit, 0, 0, 16)), wrong(sized(16, 0, 0), api.ErrDoubt), fine(deliver(4), post(api.Done, 0, 0, 16)),
	)
	if got := w.Rows(0); len(got) != 2 || len(got[0].Key) != 0 || len(got[0].Row) != 0 || len(got[1].Key) != 200 || len(got[1].Row) != 2000 {
		t.Errorf("there are %d rows", len(got))
	}
	knows(t, w, 16, 2, 3, 1)
}

// P15.1 (G2): each letter has the next number, copies, too, and letters that are not in
// transit have none.
func TestLetters(t *testing.T) {
	m, w := fresh(t, 3, start(0), put(0, 1, "a"))
	for _, number := range []int{-1, 0, 1, 5, math.MinInt, math.MaxInt} {
		run(t, w, wrong(deliver(number), api.ErrNoLetter), wrong(twice(number), api.ErrNoLetter), wrong(lose(number), api.ErrNoLetter))
		if l, e := w.Look(number); e != api.ErrNoLetter || !equal(l, api.Letter{}) {
			t.Errorf("Look(%d) = %v, %d", number, l, e)
		}
	}
	m.check(t, w)
	first, second := post(1, 0, 1, 0, 1, 2), post(1, 0, 2, 0, 1, 2)
	run(t, w, fine(ask(0, 1, 2), first, second), fine(twice(0), first), fine(lose(0)), fine(twice(1), second), wrong(twice(0), api.ErrNoLetter), wrong(lose(0), api.ErrNoLetter))
	if got := w.Letters(); !slices.Equal(got, []int{1, 2, 3}) {
		t.Errorf("Letters = %v", got)
	}
	for number, want := range map[int]api.Letter{1: second, 2: first, 3: second} {
		if l, e := w.Look(number); e != api.OK || !equal(l, want) {
			t.Errorf("Look(%d) = %v, %d", number, l, e)
		}
	}
	run(t, w, fine(deliver(2), post(api.Yes, 1, 0, 0)), wrong(deliver(2), api.ErrNoLetter), fine(deliver(3), post(api.No, 2, 0, 0)))
	if got := w.Letters(); !slices.Equal(got, []int{1, 4, 5}) {
		t.Errorf("Letters = %v", got)
	}
}

// P15.1 (G2): an Ask goes to the coordinator at the node of the transaction, and to the
// participant at any other one. In the end the coordinator has forgotten what the
// participants remember, so that their answers differ.
func TestAskGoesTo(t *testing.T) {
	_, w := fresh(t, 3, start(0), put(0, 0, "a"), put(0, 1, "a"), put(0, 2, "a"), ask(0, 0, 1, 2))
	run(t, w,
		fine(deliver(0), post(api.Yes, 0, 0, 0)), fine(deliver(1), post(api.Yes, 1, 0, 0)), fine(deliver(2), post(api.Yes, 2, 0, 0)),
		fine(deliver(3)), fine(deliver(4)),
	)
	ticks(t, w, 1, 5, post(api.Ask, 1, 0, 0), post(api.Ask, 1, 2, 0))
	ticks(t, w, 0, 5, post(1, 0, 2, 0, 0, 1, 2), post(api.Ask, 0, 0, 0), post(api.Ask, 0, 1, 0), post(api.Ask, 0, 2, 0))
	for _, number := range []int{6, 7, 9, 10, 11} {
		l, _ := w.Look(number)
		run(t, w, fine(twice(number), l), fine(deliver(number)))
	}
	run(t, w,
		fine(deliver(5), post(api.Commit, 0, 0, 0), post(api.Commit, 0, 1, 0), post(api.Commit, 0, 2, 0)),
		fine(twice(12), post(api.Ask, 1, 0, 0)), fine(twice(13), post(api.Ask, 1, 2, 0)), fine(twice(14), post(api.Ask, 0, 0, 0)),
		fine(deliver(20), post(api.Commit, 0, 1, 0)), fine(deliver(21)), fine(deliver(22), post(api.Commit, 0, 0, 0)),
		fine(deliver(17), post(api.Done, 0, 0, 0)), fine(deliver(18), post(api.Done, 1, 0, 0)), fine(deliver(19), post(api.Done, 2, 0, 0)),
		fine(deliver(25)), fine(deliver(26)), fine(deliver(27)),
	)
	knows(t, w, 0, 0, 3, 3, 3)
	run(t, w,
		fine(deliver(12), post(api.Abort, 0, 1, 0)), fine(deliver(13), post(api.Commit, 2, 1, 0)), fine(deliver(14), post(api.Abort, 0, 0, 0)),
		fine(deliver(15), post(api.Commit, 1, 0, 0)), fine(deliver(16), post(api.Commit, 2, 0, 0)),
		fine(deliver(28)), fine(deliver(30)), fine(deliver(29), post(api.Done, 1, 0, 0)), fine(deliver(31), post(api.Done, 0, 0, 0)), fine(deliver(33)), fine(deliver(34)),
	)
	knows(t, w, 0, 0, 3, 3, 3)
}

// P15.1 (G2): who is in doubt asks the others, too, of which one may know: its answer
// counts also while the coordinator is not to be reached.
func TestOthersAnswer(t *testing.T) {
	for _, aborts := range []bool{false, true} {
		_, w := fresh(t, 3, start(0), put(0, 1, "a"), put(0, 2, "a"), ask(0, 1, 2))
		run(t, w, fine(deliver(0), post(api.Yes, 1, 0, 0)), fine(deliver(1), post(api.Yes, 2, 0, 0)))
		kind, known := api.Commit, 3
		if aborts {
			kind, known = api.Abort, 4
			run(t, w, fine(stop(0), post(kind, 0, 1, 0), post(kind, 0, 2, 0)), fine(lose(2)), fine(lose(3)))
		} else {
			run(t, w, fine(deliver(2)), fine(deliver(3), post(kind, 0, 1, 0), post(kind, 0, 2, 0)))
		}
		do(w, deliver(4))
		do(w, lose(5))
		ticks(t, w, 2, 5, post(api.Ask, 2, 0, 0), post(api.Ask, 2, 1, 0))
		asked := w.Letters()
		run(t, w, fine(deliver(asked[len(asked)-1]), post(kind, 1, 2, 0)))
		knows(t, w, 0, w.Decided(0), 0, known, 2)
		do(w, deliver(asked[len(asked)-1]+1))
		knows(t, w, 0, w.Decided(0), 0, known, known)
	}
}

// P15.1 (G2): a tick counts at its node alone, for the coordinator and for the
// participant, whose letters come behind those of the coordinator.
func TestTick(t *testing.T) {
	_, w := fresh(t, 3, start(0), start(1), put(0, 0, "a"), put(1, 0, "b"), put(0, 2, "a"), put(1, 2, "b"), ask(1, 0, 2), ask(0, 0, 2))
	run(t, w, fine(deliver(0), post(api.Yes, 0, 1, 1)), fine(deliver(2), post(api.Yes, 0, 0, 0)), fine(deliver(5)))
	for range 20 {
		run(t, w, fine(tick(2)))
	}
	ticks(t, w, 1, 5, post(1, 1, 0, 1, 0, 2), post(1, 1, 2, 1, 0, 2))
	ticks(t, w, 0, 5, post(1, 0, 2, 0, 0, 2), post(api.Ask, 0, 0, 0), post(api.Ask, 0, 2, 0), post(api.Ask, 0, 1, 1), post(api.Ask, 0, 2, 1))
	ticks(t, w, 0, 5, post(1, 0, 2, 0, 0, 2), post(api.Ask, 0, 0, 0), post(api.Ask, 0, 2, 0), post(api.Ask, 0, 1, 1), post(api.Ask, 0, 2, 1))
	run(t, w, fine(stop(0), post(api.Abort, 0, 0, 0), post(api.Abort, 0, 2, 0)))
	ticks(t, w, 0, 5, post(api.Ask, 0, 0, 0), post(api.Ask, 0, 2, 0), post(api.Ask, 0, 1, 1), post(api.Ask, 0, 2, 1))
}

// P15.1 (G3): what power leaves of the coordinator's disk: that a commit is forgotten is
// not durable, and has a frame of ten bytes.
func TestPowerCoordinator(t *testing.T) {
	for keep := -30; keep < 30; keep++ {
		for _, other := range []int{0, 10, keep} {
			_, w := fresh(t, 2, start(0), put(0, 1, "a"), ask(0, 1), deliver(0), deliver(1), deliver(2), deliver(3))
			knows(t, w, 0, 0, 0, 3)
			run(t, w, fine(power(0, keep, other)))
			whole := keep%11 == 10 || keep < 0 && -(keep+1)%11 == 10
			if whole {
				knows(t, w, 0, 0, 0, 3)
				ticks(t, w, 0, 10)
				continue
			}
			knows(t, w, 0, 2, 0, 3)
			ticks(t, w, 0, 5, post(api.Commit, 0, 1, 0))
			run(t, w, fine(deliver(4), post(api.Done, 1, 0, 0)), fine(deliver(5)), begins(0, 16*65536), begins(1, 1))
			knows(t, w, 0, 0, 0, 3)
		}
	}
}

// P15.1 (G3): what power leaves of the shard's disk: that a transaction is aborted is not
// durable, and has a frame of ten bytes.
func TestPowerShard(t *testing.T) {
	for keep := -30; keep < 30; keep++ {
		for _, other := range []int{0, 10, keep} {
			_, w := fresh(t, 2, start(0), put(0, 1, "a"), ask(0, 1), deliver(0), stop(0), deliver(2))
			knows(t, w, 0, 0, 0, 4)
			run(t, w, fine(power(1, other, keep)))
			whole := keep%11 == 10 || keep < 0 && -(keep+1)%11 == 10
			if whole {
				knows(t, w, 0, 0, 0, 0)
				ticks(t, w, 1, 10)
				continue
			}
			knows(t, w, 0, 0, 0, 2)
			ticks(t, w, 1, 5, post(api.Ask, 1, 0, 0))
			run(t, w, fine(deliver(3), post(api.Abort, 0, 1, 0)), fine(deliver(4)))
			knows(t, w, 0, 0, 0, 4)
		}
	}
}

// P15.1 (G3): a loss of power at one node: what is in transit stays, and so do all other
// nodes. What is active is gone, and what is prepared is in doubt, with its row; the
// other participants are known no more, and ticks are counted anew.
func TestPower(t *testing.T) {
	for _, keep := range []int{0, 1, 10, 1 << 40, -1, math.MaxInt, math.MinInt} {
		m, w := fresh(t, 3, start(1), start(1), put(1, 0, "a"), put(1, 2, "a"), put(17, 0, "b"), put(17, 2, "b"), ask(1, 0, 2), deliver(0), tick(0), tick(0), tick(0), tick(0))
		m.follow(t, w, power(0, keep, keep))
		m.check(t, w)
		knows(t, w, 1, 1, 2, 0, 1)
		knows(t, w, 17, 1, 0, 0, 1)
		if got := w.Letters(); !slices.Equal(got, []int{1, 2}) {
			t.Errorf("Letters = %v", got)
		}
		ticks(t, w, 0, 5, post(api.Ask, 0, 1, 1))
		run(t, w, fine(deliver(1), post(api.Yes, 2, 1, 1)), fine(deliver(2)), fine(deliver(4), post(api.Commit, 1, 0, 1), post(api.Commit, 1, 2, 1)))
		run(t, w, fine(deliver(5), post(api.Done, 0, 1, 1)), fine(power(1, keep, keep)))
		knows(t, w, 1, 2, 3, 0, 2)
		knows(t, w, 17, 0, 0, 0, 1)
		run(t, w, wrong(ask(17, 2), api.ErrState), wrong(stop(17), api.ErrState), begins(1, 16*65536+1), fine(power(0, keep, keep)), begins(0, 16*65536*2), begins(2, 2))
		knows(t, w, 1, 2, 0, 0, 2)
		if got := rowsOf(t, w, 0); len(got) != 1 || got["a"] != "row" {
			t.Errorf("the rows are %v", got)
		}
		ticks(t, w, 1, 5, post(api.Commit, 1, 0, 1), post(api.Commit, 1, 2, 1))
	}
}

// P15.1: at most 1024 letters are in transit. Those for which there is no room are lost,
// the last ones of those to be sent, and have no number.
func TestNetFull(t *testing.T) {
	m, w := fresh(t, 4, start(0), start(0), start(0), put(0, 1, "a"), put(0, 2, "a"), put(0, 3, "a"), ask(0, 1), ask(16, 1, 2))
	for range 1024 - 3 {
		m.follow(t, w, twice(0))
	}
	full := w.Letters()
	if len(full) != 1024 || full[1023] != 1023 {
		t.Fatalf("there are %d letters", len(full))
	}
	run(t, w, wrong(twice(0), api.ErrFull), wrong(twice(1024), api.ErrNoLetter), fine(ask(32, 1, 2, 3)))
	knows(t, w, 32, 1)
	ticks(t, w, 0, 5)
	run(t, w, fine(lose(100)), fine(lose(200)))
	ticks(t, w, 0, 5, post(1, 0, 1, 0, 1), post(1, 0, 1, 16, 1, 2))
	run(t, w, fine(deliver(0), post(api.Yes, 1, 0, 0)), fine(deliver(1), post(api.No, 1, 0, 16)), fine(deliver(1027), post(api.Abort, 0, 2, 16)), wrong(twice(2), api.ErrFull))
	run(t, w, fine(lose(2)), fine(lose(3)), fine(stop(32), post(api.Abort, 0, 1, 32), post(api.Abort, 0, 2, 32)), wrong(stop(32), api.ErrState))
	if got := w.Letters(); len(got) != 1024 || got[1023] != 1030 {
		t.Errorf("there are %d letters, the last one is %d", len(got), got[len(got)-1])
	}
}

// P15.1 (G1): 65536 transactions begin at a node, until it is opened again.
func TestStartFull(t *testing.T) {
	_, w := fresh(t, 2)
	for i := range 1 << 16 {
		if got := do(w, start(1)); got != (outcome{n: 16*i + 1}) {
			t.Fatalf("Start = %v", got)
		}
	}
	run(t, w, wrong(start(1), api.ErrFull), wrong(start(1), api.ErrFull), begins(0, 0), fine(power(1, 0, 0)), begins(1, 16*65536+1), begins(0, 16))
	knows(t, w, 16*65535+1, 0)
	knows(t, w, 16*65536+1, 1)
}

// P15.1 (G1 to G3): all lists of few steps, each from several beginnings.
func TestHistories(t *testing.T) {
	all := []step{
		start(0), put(0, 1, "b"), put(16, 1, "c"), ask(0, 0, 1), ask(16, 1), stop(0), deliver(0), deliver(1), deliver(2), deliver(3), deliver(4), deliver(5), deliver(7),
		twice(1), lose(1), tick(0), tick(1), power(0, 0, 0), power(1, 0, 0), power(0, 9, 9), power(1, 10, 10),
	}
	asked := []step{start(0), put(0, 0, "a"), put(0, 1, "a"), ask(0, 0, 1)}
	voted := append(slices.Clip(asked), deliver(0), deliver(1))
	waiting := []step{tick(0), tick(0), tick(0), tick(0), tick(1), tick(1), tick(1), tick(1)}
	starts := [][]step{
		nil, {start(0), start(0), put(0, 1, "a"), put(16, 1, "b")}, asked, voted,
		append(slices.Clip(asked), deliver(0), lose(1), tick(0), tick(0), tick(0), tick(0)),
		append(slices.Clip(voted), waiting...),
		append(slices.Clip(voted), deliver(2), deliver(3)),
		append(append(slices.Clip(voted), deliver(2), deliver(3), lose(4)), waiting...),
		append(slices.Clip(voted), deliver(2), deliver(3), deliver(4), deliver(5)),
		{start(0), put(0, 0, "a"), ask(0, 0, 1), deliver(0), deliver(1), deliver(3)},
	}
	for _, x := range starts {
		histories(all, 3, func(l []step) {
			m, w := fresh(t, 2, x...)
			m.follow(t, w, l...)
			m.check(t, w)
		})
	}
}

// P15.1 (G1 to G3): long lists of steps, with losses of power.
func TestLongHistories(t *testing.T) {
	r := rand.New(rand.NewPCG(1, 2))
	for i := range 400 {
		m, w := fresh(t, 1+i%5)
		if i%20 == 0 {
			m, w = fresh(t, 16)
		}
		for k := range 600 {
			m.follow(t, w, m.anyStep(r, 20+i))
			if k%10 == 0 {
				m.check(t, w)
			}
		}
		m.check(t, w)
	}
}
