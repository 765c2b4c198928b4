package participant_test

import (
	"fmt"
	"maps"
	"math"
	"math/rand/v2"
	"slices"
	"sync"
	"testing"

	"frankpledge/api"
	"frankpledge/disk"
	"frankpledge/participant"
	"frankpledge/shard"
)

// line is a step of a script, with the error and the letters that come of it, by hand.
type line struct {
	step
	e       api.Errno
	letters []api.Letter
}

// fine is a step that answers OK and sends letters.
func fine(s step, letters ...api.Letter) line { return line{step: s, letters: letters} }

// wrong is a step that answers an error and sends none.
func wrong(s step, e api.Errno) line { return line{step: s, e: e} }

// run does steps one by one on a participant, and holds each answer and the letters
// that Out has then against those by hand.
func run(t *testing.T, p *pair, lines ...line) {
	t.Helper()
	for i, x := range lines {
		if got := p.do(x.step); got.e != x.e {
			t.Errorf("line %d: %v = %d, not %d", i, x.step, got.e, x.e)
		}
		if got := p.p.Out(); !slices.EqualFunc(got, x.letters, equal) {
			t.Errorf("line %d: %v sends %v, not %v", i, x.step, got, x.letters)
		}
	}
}

// ticks does so many ticks, of which the last one alone sends letters.
func ticks(t *testing.T, p *pair, n int, letters ...api.Letter) {
	t.Helper()
	for range n - 1 {
		run(t, p, fine(tick()))
	}
	run(t, p, fine(tick(), letters...))
}

// knows holds what is known of a transaction against what is to be.
func knows(t *testing.T, p *pair, n, want int) {
	t.Helper()
	if got := p.p.Known(n); got != want {
		t.Errorf("Known(%d) = %d, not %d", n, got, want)
	}
}

// P14.1 (I1, I2): a commit, an abort and a transaction that only reads, by hand.
func TestCalls(t *testing.T) {
	_, p := fresh(t, 3)
	run(t, p,
		fine(begin(18)), fine(put(18, "a", "one")), fine(begin(34)), fine(put(34, "b", "two")), fine(begin(50)),
		fine(hear(post(1, 2, 3, 18, 0, 3)), post(api.Yes, 3, 2, 18)),
		fine(hear(post(1, 2, 3, 34, 3)), post(api.Yes, 3, 2, 34)),
		fine(hear(post(1, 2, 3, 50, 3, 7)), post(api.ReadOnly, 3, 2, 50)),
		fine(hear(post(1, 2, 3, 66, 3, 7)), post(api.No, 3, 2, 66)),
		fine(hear(post(api.Abort, 2, 3, 34))),
		fine(hear(post(api.Commit, 2, 3, 18)), post(api.Done, 3, 2, 18)),
		fine(hear(post(api.Commit, 2, 3, 18)), post(api.Done, 3, 2, 18)),
		fine(hear(post(api.Ask, 0, 3, 18)), post(api.Commit, 3, 0, 18)),
		fine(hear(post(api.Ask, 0, 3, 34)), post(api.Abort, 3, 0, 34)),
		fine(hear(post(api.Ask, 0, 3, 50))),
	)
	for n, want := range map[int]int{18: 3, 34: 4, 50: 5, 66: 0} {
		knows(t, p, n, want)
	}
	if got := p.p.Over(); !slices.Equal(got, []int{50, 34, 18}) {
		t.Errorf("Over = %v", got)
	}
	if got := rowsOf(p.s); !maps.Equal(got, map[string]string{"a": "one"}) {
		t.Errorf("the rows are %v", got)
	}
}

// states are the ways to bring transaction 18, whose coordinator is at node 2, to where
// it can be at node 3.
func states() map[string][]step {
	with := func(l []step, more ...step) []step { return append(append(slices.Clone(l), more...), out(), over()) }
	of := func(kind api.LetterKind) step { return hear(post(kind, 2, 3, 18)) }
	asked := hear(post(1, 2, 3, 18, 0, 2, 3, 5))
	active := []step{begin(18), put(18, "a", "one")}
	prepared := with(active, asked)
	return map[string][]step{
		"new":         {},
		"empty":       {begin(18)},
		"back":        with(active, on("Back", 18)),
		"active":      active,
		"prepared":    prepared,
		"opened":      with(prepared, power(0)),
		"renewed":     with(prepared, on("New", 0)),
		"direct":      with(active, on("Prepare", 18)),
		"nothing":     with([]step{begin(18)}, on("Prepare", 18)),
		"committed":   with(prepared, of(api.Commit)),
		"committed0":  with(prepared, of(api.Commit), power(0)),
		"aborted":     with(prepared, of(api.Abort)),
		"aborted0":    with(prepared, of(api.Abort), power(0)),
		"aborted10":   with(prepared, of(api.Abort), power(10)),
		"stopped":     with(active, of(api.Abort)),
		"refused":     with(active, on("Fill", 0), asked, on("Free", 0)),
		"read":        with([]step{begin(18)}, asked),
		"lost":        with(active, power(0)),
		"gone":        with(prepared, on("Abort", 18)),
		"again":       with(prepared, of(api.Commit), begin(18), put(18, "b", "two")),
		"again empty": with(prepared, of(api.Abort), begin(18)),
		"again ready": with([]step{begin(18)}, asked, begin(18), put(18, "b", "two"), asked),
	}
}

// P14.1 (I1): what each letter does in each state: what goes to the coordinator, or
// back to whoever asks, and what is known then.
func TestHear(t *testing.T) {
	const none = api.LetterKind(0)
	type want struct {
		known                        int
		prepare, commit, ask         api.LetterKind
		prepared, decided, dismissed int // what is known after Prepare, Commit and Abort
	}
	doubt := want{2, api.Yes, api.Done, none, 2, 3, 4}
	ready := want{1, api.Yes, none, none, 2, 1, 4}
	empty := want{1, api.ReadOnly, none, none, 5, 1, 4}
	strange := want{0, api.No, api.Done, none, 0, 0, 0}
	committed := want{3, none, api.Done, api.Commit, 3, 3, 3}
	aborted := want{4, api.No, api.Done, api.Abort, 4, 4, 4}
	again, againEmpty := ready, empty
	again.ask, againEmpty.ask = api.Commit, api.Abort
	wants := map[string]want{
		"new": strange, "empty": empty, "back": empty, "active": ready, "prepared": doubt, "opened": doubt, "renewed": doubt, "direct": doubt, "nothing": doubt,
		"committed": committed, "committed0": strange, "aborted": aborted, "aborted0": doubt, "aborted10": strange, "stopped": aborted, "refused": aborted,
		"read": {5, api.ReadOnly, api.Done, none, 5, 5, 5}, "lost": strange, "gone": strange, "again": again, "again empty": againEmpty, "again ready": doubt,
	}
	for name, x := range states() {
		w, listed := wants[name]
		if !listed {
			t.Errorf("%s isn't listed", name)
		}
		for kind := api.Prepare; kind <= api.Ask; kind++ {
			for _, from := range []int{2, 0, 3, 15} {
				m, p := made(t, 3, x...)
				knows(t, p, 18, w.known)
				back, to, known := none, 2, w.known
				switch kind {
				case api.Prepare:
					back, known = w.prepare, w.prepared
				case api.Commit:
					back, known = w.commit, w.decided
				case api.Abort:
					known = w.dismissed
				case api.Ask:
					back, to = w.ask, from
				}
				var letters []api.Letter
				if back != none {
					letters = []api.Letter{post(back, 3, to, 18)}
				}
				m.do(hear(post(kind, from, 3, 18)))
				run(t, p, fine(hear(post(kind, from, 3, 18)), letters...))
				if got := p.p.Known(18); got != known {
					t.Errorf("%s: after %d from %d, Known = %d, not %d", name, kind, from, got, known)
				}
				var ended []int
				if known > 2 && w.known < 3 {
					ended = []int{18}
				}
				if got := p.p.Over(); !slices.Equal(got, ended) {
					t.Errorf("%s: after %d from %d, Over = %v, not %v", name, kind, from, got, ended)
				}
				m.check(t, p)
			}
		}
	}
}

// P14.1 (I1, I2), P14.2, P14.3: all lists of few steps, each from several states.
func TestHistories(t *testing.T) {
	of := func(kind api.LetterKind, from int, nodes ...int) step { return hear(post(kind, from, 3, 18, nodes...)) }
	all := []step{
		of(api.Prepare, 2, 1, 3), of(api.Prepare, 0), of(api.Commit, 2), of(api.Abort, 2), of(api.Ask, 7), of(api.Yes, 3),
		begin(18), put(18, "a", "new"), drop(18, "a"), on("Abort", 18), on("New", 0), tick(), over(), power(0), power(10),
		on("Image", 0), on("Fill", 0), on("Free", 0),
	}
	for _, x := range states() {
		histories(all, 2, func(l []step) {
			m, p := made(t, 3, x...)
			m.follow(t, p, l...)
			m.check(t, p)
			m.follow(t, p, tick(), tick(), tick(), tick(), out(), tick(), out(), over())
		})
	}
	histories(all[:15], 4, func(l []step) {
		m, p := made(t, 3, begin(18), put(18, "a", "one"))
		m.follow(t, p, l...)
		m.check(t, p)
		m.follow(t, p, tick(), tick(), tick(), tick(), tick(), out(), over())
	})
}

// P14.1 (I1, I2), P14.2, P14.3: long lists of steps of some transactions, with losses
// of power.
func TestLongHistories(t *testing.T) {
	r := rand.New(rand.NewPCG(1, 2))
	for i := range 400 {
		m, p := fresh(t, i%16)
		for k := range 400 {
			m.follow(t, p, m.anyStep(r, 20+i))
			if k%10 == 0 {
				m.check(t, p)
			}
		}
		m.follow(t, p, out(), over())
		m.check(t, p)
	}
}

// P14.1 (I1): no shard, and what is no node.
func TestNewErrArg(t *testing.T) {
	s, _ := shard.Open(disk.New())
	for _, node := range []int{-1, 16, 17, 18, 256, 1 << 32, -16, math.MinInt, math.MaxInt} {
		for _, x := range []*shard.Shard{s, nil} {
			if p, e := participant.New(x, node); p != nil || e != api.ErrArg {
				t.Errorf("New(%v, %d) = %v, %d", x, node, p, e)
			}
		}
	}
	for node := range 16 {
		if p, e := participant.New(nil, node); p != nil || e != api.ErrArg {
			t.Errorf("New(nil, %d) = %v, %d", node, p, e)
		}
		if p, e := participant.New(s, node); p == nil || e != api.OK {
			t.Errorf("New(%d) = %v, %d", node, p, e)
		}
	}
}

// P14.1 (I1): a new participant remembers nothing, but has the transactions of its
// shard.
func TestNew(t *testing.T) {
	for name, want := range map[string]int{"active": 1, "prepared": 2, "committed": 0, "aborted": 0, "read": 0, "refused": 0} {
		x := states()[name]
		m, p := made(t, 3, x[:len(x)-1]...)
		m.follow(t, p, hear(post(api.Prepare, 2, 3, 99)), on("New", 0))
		knows(t, p, 18, want)
		if l, o := p.p.Out(), p.p.Over(); len(l) != 0 || len(o) != 0 {
			t.Errorf("%s: Out = %v, Over = %v", name, l, o)
		}
		m.check(t, p)
	}
}

// P14.1 (I1): letters that are not valid, or not to this node, in each state. Nothing
// comes of them.
func TestErrLetter(t *testing.T) {
	for name, x := range states() {
		m, p := made(t, 3, x...)
		for kind := api.LetterKind(-1); kind <= 10; kind++ {
			for _, l := range []api.Letter{
				post(kind, 2, 2, 18), post(kind, 2, 4, 18), post(kind, 3, 2, 18), post(kind, 2, 0, 18), post(kind, 2, 19, 18), post(kind, -1, 3, 18), post(kind, 16, 3, 18),
				post(kind, 2, -1, 18), post(kind, 2, 16, 18), post(kind, math.MaxInt, 3, 18), post(kind, math.MinInt, 3, 18), post(kind, 2, 3, -1), post(kind, 2, 3, -14),
				post(kind, 2, 3, 1<<40+1), post(kind, 2, 3, 18+1<<40), post(kind, 2, 3, math.MinInt), post(kind, 2, 3, math.MaxInt), post(kind, 2, 3, 18, 1, 0),
				post(kind, 2, 3, 18, 3, 3), post(kind, 2, 3, 18, 16), post(kind, 2, 3, 18, -1), post(kind, 2, 3, 18, 0, 1, 2, 3, 4, 5, 6, 7, 8, 9, 10, 11, 12, 13, 14, 15, 16),
			} {
				run(t, p, wrong(hear(l), api.ErrLetter))
			}
			if kind != api.Prepare {
				run(t, p, wrong(hear(post(kind, 2, 3, 18, 3)), api.ErrLetter))
			}
			if kind < 1 || kind > 8 {
				run(t, p, wrong(hear(post(kind, 2, 3, 18)), api.ErrLetter))
			}
		}
		if got := p.p.Over(); len(got) != 0 {
			t.Errorf("%s: Over = %v", name, got)
		}
		m.check(t, p)
	}
}

// P14.1 (I1): whoever sends a letter, the coordinator is at the node of the number.
// Participants may be at each node, also that of the coordinator, and numbers are
// those from 0 up to MaxNumber.
func TestCoordinators(t *testing.T) {
	for node := range 16 {
		for _, n := range []int{0, 1, 15, 16, 31, 18, 1<<40 - 1, 1<<40 - 16 + node, 1 << 40} {
			home, other := n%16, (n+5)%16
			_, p := fresh(t, node)
			run(t, p,
				fine(hear(post(1, other, node, n)), post(api.No, node, home, n)),
				fine(hear(post(api.Commit, other, node, n)), post(api.Done, node, home, n)),
				fine(begin(n)),
				fine(hear(post(1, other, node, n)), post(api.ReadOnly, node, home, n)),
				fine(begin(n)), fine(put(n, "a", "one")),
				fine(hear(post(1, other, node, n)), post(api.Yes, node, home, n)),
			)
			ticks(t, p, 5, post(api.Ask, node, home, n))
			run(t, p,
				fine(hear(post(api.Commit, other, node, n)), post(api.Done, node, home, n)),
				fine(hear(post(api.Ask, other, node, n)), post(api.Commit, node, other, n)),
				fine(hear(post(api.Ask, home, node, n)), post(api.Commit, node, home, n)),
			)
			knows(t, p, n, 3)
		}
	}
}

// P14.1 (I1): changes that were taken back are none; changes that leave the rows as
// they are are some.
func TestReadOnly(t *testing.T) {
	for _, x := range []struct {
		steps []step
		want  api.LetterKind
		known int
	}{
		{[]step{put(34, "a", "two")}, api.Yes, 2},
		{[]step{put(34, "a", "one")}, api.Yes, 2},
		{[]step{drop(34, "a")}, api.Yes, 2},
		{[]step{put(34, "b", ""), drop(34, "b")}, api.Yes, 2},
		{[]step{put(34, "b", ""), on("Back", 34)}, api.ReadOnly, 5},
		{[]step{put(34, "b", ""), on("Back", 34), put(34, "b", "")}, api.Yes, 2},
		{[]step{drop(34, "b"), put(18, "c", "")}, api.ReadOnly, 5},
		{nil, api.ReadOnly, 5},
	} {
		m, p := made(t, 3, states()["committed"]...)
		before := p.d.End()
		for _, s := range append([]step{begin(34)}, x.steps...) {
			m.do(s)
			p.do(s)
		}
		m.do(hear(post(1, 2, 3, 34)))
		run(t, p, fine(hear(post(1, 2, 3, 34)), post(x.want, 3, 2, 34)))
		knows(t, p, 34, x.known)
		if (p.d.End() > before) != (x.known == 2) || p.d.Safe() != p.d.End() {
			t.Errorf("%v: Safe is %d, End %d, and it was %d", x.steps, p.d.Safe(), p.d.End(), before)
		}
		m.check(t, p)
	}
}

// P14.1 (I2): those in doubt ask every five ticks, first their coordinator. They ask
// neither themselves nor a coordinator twice.
func TestTickAsks(t *testing.T) {
	for _, x := range []struct{ node, n int }{{3, 18}, {2, 18}, {0, 18}, {7, 18}, {15, 0}, {15, 1 << 40}, {5, 15}, {15, 15}} {
		for _, nodes := range [][]int{nil, {x.node}, {x.n % 16}, {0, 1}, {0, 3, 5}, {15}, {0, 1, 2, 3, 4, 5, 6, 7, 8, 9, 10, 11, 12, 13, 14, 15}, {2, 3}, {7, 15}} {
			_, p := fresh(t, x.node)
			ticks(t, p, 3)
			run(t, p, fine(begin(x.n)), fine(put(x.n, "a", "one")))
			ticks(t, p, 8)
			run(t, p, fine(hear(post(1, 9, x.node, x.n, nodes...)), post(api.Yes, x.node, x.n%16, x.n)))
			want := []api.Letter{post(api.Ask, x.node, x.n%16, x.n)}
			for _, n := range nodes {
				if n != x.node && n != x.n%16 {
					want = append(want, post(api.Ask, x.node, n, x.n))
				}
			}
			ticks(t, p, 5, want...)
			ticks(t, p, 5, want...)
			ticks(t, p, 4)
			run(t, p, fine(hear(post(api.Commit, 9, x.node, x.n)), post(api.Done, x.node, x.n%16, x.n)))
			ticks(t, p, 20)
		}
	}
}

// P14.1 (I2): only those that are prepared ask.
func TestTickSilent(t *testing.T) {
	for name, x := range states() {
		m, p := made(t, 3, x...)
		for range 30 {
			m.follow(t, p, tick())
		}
		if got := m.follow(t, p, out()).letters; (len(got) > 0) != (p.p.Known(18) == 2) {
			t.Errorf("%s: %v", name, got)
		}
		m.check(t, p)
	}
}

// P14.1 (I1, I2): a Prepare that comes again tells the participants, but five ticks are
// counted from the first one on. After a loss of power nobody else is known, and the
// ticks are counted anew.
func TestTickPreparedAgain(t *testing.T) {
	ask := func(n int) api.Letter { return post(api.Ask, 3, n, 18) }
	yes := post(api.Yes, 3, 2, 18)
	_, p := fresh(t, 3)
	run(t, p, fine(begin(18)), fine(put(18, "a", "one")), fine(hear(post(1, 2, 3, 18)), yes))
	ticks(t, p, 4)
	run(t, p, fine(hear(post(1, 2, 3, 18, 0, 2, 3, 5)), yes))
	ticks(t, p, 1, ask(2), ask(0), ask(5))
	run(t, p, fine(hear(post(1, 2, 3, 18)), yes))
	ticks(t, p, 5, ask(2), ask(0), ask(5))
	run(t, p, fine(hear(post(1, 2, 3, 18, 3, 7)), yes))
	ticks(t, p, 5, ask(2), ask(7))
	ticks(t, p, 3)
	run(t, p, fine(power(0)))
	ticks(t, p, 5, ask(2))
	ticks(t, p, 2)
	run(t, p, fine(hear(post(1, 2, 3, 18, 3, 9)), yes))
	ticks(t, p, 3, ask(2), ask(9))
	run(t, p, fine(on("New", 0)))
	ticks(t, p, 5, ask(2))
	run(t, p, fine(hear(post(api.Abort, 2, 3, 18))))
	ticks(t, p, 20)
}

// P14.1 (I2): one tick may ask for several transactions: by their numbers, not in the
// order in which they were prepared. Each one has its own time.
func TestTickOrder(t *testing.T) {
	_, p := fresh(t, 3)
	var want []api.Letter
	for _, n := range []int{200, 7, 1 << 40, 0, 90, 15, 16, 3} {
		p.do(begin(n))
		p.do(put(n, fmt.Sprint(n), ""))
		p.do(hear(post(1, 2, 3, n, 1, 3, 12)))
	}
	for _, n := range []int{0, 3, 7, 15, 16, 90, 200, 1 << 40} {
		want = append(want, post(api.Ask, 3, n%16, n), post(api.Ask, 3, 1, n), post(api.Ask, 3, 12, n))
	}
	p.p.Out()
	ticks(t, p, 5, want...)
	ticks(t, p, 5, want...)
	_, p = fresh(t, 3)
	for i := range 5 {
		n := 100 - i
		run(t, p, fine(begin(n)), fine(put(n, "a", "")), fine(hear(post(1, 2, 3, n)), post(api.Yes, 3, n%16, n)))
		if i < 4 {
			ticks(t, p, 1)
		}
	}
	for range 3 {
		for n := 100; n > 95; n-- {
			ticks(t, p, 1, post(api.Ask, 3, n%16, n))
		}
	}
}

// P14.1 (I2): what others do at the shard counts: what they prepare asks from then on,
// and what they end asks no more, nor is anything known of it.
func TestTickDirect(t *testing.T) {
	ask := post(api.Ask, 3, 2, 18)
	for before := range 12 {
		_, p := fresh(t, 3)
		run(t, p, fine(begin(18)), fine(put(18, "a", "one")))
		for range before {
			ticks(t, p, 1)
		}
		run(t, p, fine(on("Prepare", 18)))
		ticks(t, p, 5, ask)
		ticks(t, p, 5, ask)
		run(t, p, fine(on("Abort", 18)))
		knows(t, p, 18, 0)
		ticks(t, p, 3)
		run(t, p, fine(begin(18)), fine(put(18, "a", "two")), fine(on("Prepare", 18)))
		ticks(t, p, 3)
		run(t, p, fine(hear(post(1, 2, 3, 18, 4, 5)), post(api.Yes, 3, 2, 18)))
		ticks(t, p, 2, ask, post(api.Ask, 3, 4, 18), post(api.Ask, 3, 5, 18))
		run(t, p, fine(on("Commit", 18)))
		knows(t, p, 18, 0)
		run(t, p, fine(hear(post(api.Ask, 4, 3, 18))), fine(hear(post(api.Commit, 2, 3, 18)), post(api.Done, 3, 2, 18)))
		if got := p.p.Over(); len(got) != 0 {
			t.Errorf("Over = %v", got)
		}
	}
}

// P14.1 (I2): what was prepared at the shard, and not seen by a tick yet, has its time
// from then on, also if a Prepare comes ahead of that tick.
func TestTickDirectPrepare(t *testing.T) {
	_, p := fresh(t, 3)
	ticks(t, p, 7)
	run(t, p, fine(begin(18)), fine(put(18, "a", "one")), fine(on("Prepare", 18)), fine(hear(post(1, 2, 3, 18, 3, 4)), post(api.Yes, 3, 2, 18)))
	ticks(t, p, 5, post(api.Ask, 3, 2, 18), post(api.Ask, 3, 4, 18))
	run(t, p, fine(hear(post(api.Abort, 2, 3, 18))), fine(begin(18)), fine(put(18, "a", "two")))
	ticks(t, p, 2)
	run(t, p, fine(hear(post(1, 2, 3, 18)), post(api.Yes, 3, 2, 18)))
	ticks(t, p, 5, post(api.Ask, 3, 2, 18))
}

// P14.1 (I2): a transaction that is prepared once more has its time from then on, and
// what was known of it earlier is known no more, whoever ended and prepared it.
func TestTickOnceMore(t *testing.T) {
	asked := hear(post(1, 2, 3, 18))
	for _, end := range []step{on("Abort", 18), on("Commit", 18), hear(post(api.Abort, 2, 3, 18)), hear(post(api.Commit, 2, 3, 18))} {
		for _, again := range []step{asked, on("Prepare", 18)} {
			if end.name != "Hear" && again.name != "Hear" {
				continue // nobody could tell the participant
			}
			_, p := made(t, 3, states()["prepared"]...)
			ticks(t, p, 3)
			for _, s := range []step{end, begin(18), put(18, "b", "two"), again} {
				p.do(s)
			}
			p.p.Out()
			ticks(t, p, 5, post(api.Ask, 3, 2, 18))
		}
	}
}

// P14.1 (I2): Out has all letters in the order in which they arose, and Over all
// transactions in that in which they became over; each one once.
func TestOutAndOver(t *testing.T) {
	_, p := fresh(t, 3)
	if l, o := p.p.Out(), p.p.Over(); len(l) != 0 || len(o) != 0 {
		t.Errorf("Out = %v, Over = %v", l, o)
	}
	for _, n := range []int{18, 34, 50, 66, 82, 98} {
		p.do(begin(n))
		p.do(put(n, fmt.Sprint(n), ""))
	}
	for _, n := range []int{7, 23} {
		p.do(begin(n))
	}
	for _, n := range []int{66, 23, 18, 34, 50} {
		p.do(hear(post(1, 2, 3, n)))
	}
	for _, s := range []step{hear(post(api.Commit, 2, 3, 50)), hear(post(api.Abort, 2, 3, 98)), hear(post(1, 2, 3, 7)), hear(post(api.Ask, 9, 3, 50)), hear(post(api.Abort, 2, 3, 34)), hear(post(api.Abort, 2, 3, 34)), hear(post(api.Commit, 2, 3, 18))} {
		p.do(s)
	}
	want := []api.Letter{
		post(api.Yes, 3, 2, 66), post(api.ReadOnly, 3, 7, 23), post(api.Yes, 3, 2, 18), post(api.Yes, 3, 2, 34), post(api.Yes, 3, 2, 50),
		post(api.Done, 3, 2, 50), post(api.ReadOnly, 3, 7, 7), post(api.Commit, 3, 9, 50), post(api.Done, 3, 2, 18),
	}
	for _, left := range []bool{true, false} {
		letters, ended := want, []int{23, 50, 98, 7, 34, 18}
		if !left {
			letters, ended = nil, nil
		}
		if got := p.p.Out(); !slices.EqualFunc(got, letters, equal) {
			t.Errorf("Out = %v, not %v", got, letters)
		}
		if got := p.p.Over(); !slices.Equal(got, ended) {
			t.Errorf("Over = %v, not %v", got, ended)
		}
	}
	run(t, p, fine(hear(post(api.Abort, 2, 3, 82))))
	if got := p.p.Over(); !slices.Equal(got, []int{82}) {
		t.Errorf("Over = %v", got)
	}
}

// leave fills the disk of a shard, but for so many bytes.
func (p *pair) leave(room int) {
	p.junk, p.clean = true, p.d.End()
	p.d.Append(make([]byte, 1<<20-(p.d.End()-p.d.Begin())-room))
}

// P14.1 (I1): if there is no room for what is to be logged: a transaction that can't be
// prepared is aborted; one that is prepared stays so, and is ended by the next letter
// for which there is room.
func TestFull(t *testing.T) {
	size := func(l ...step) int {
		_, p := made(t, 3, l...)
		before := p.d.End()
		p.do(hear(post(1, 2, 3, 18)))
		return p.d.End() - before
	}
	active := states()["active"]
	need := size(active...)
	for _, room := range []int{0, 1, need - 1, need, need + 1} {
		_, p := made(t, 3, active...)
		p.leave(room)
		back, known := api.No, 4
		if room >= need {
			back, known = api.Yes, 2
		}
		run(t, p, fine(hear(post(1, 2, 3, 18, 3, 4)), post(back, 3, 2, 18)))
		knows(t, p, 18, known)
		if got := p.p.Over(); (len(got) == 1) != (room < need) {
			t.Errorf("room for %d: Over = %v", room, got)
		}
		if room < need {
			ticks(t, p, 10)
			run(t, p, fine(hear(post(1, 2, 3, 18, 3, 4)), post(api.No, 3, 2, 18)), fine(hear(post(api.Ask, 4, 3, 18)), post(api.Abort, 3, 4, 18)))
		}
	}
	for _, kind := range []api.LetterKind{api.Commit, api.Abort} {
		for room := range 14 {
			m, p := made(t, 3, states()["prepared"]...)
			p.leave(room)
			if room < 5+5 { // a frame's head and the row of two Ints, which each have a byte
				for range 3 {
					run(t, p, wrong(hear(post(kind, 2, 3, 18)), api.ErrFull))
					m.check(t, p)
				}
				if got := p.p.Over(); len(got) != 0 {
					t.Errorf("room for %d: Over = %v", room, got)
				}
				ticks(t, p, 5, post(api.Ask, 3, 2, 18), post(api.Ask, 3, 0, 18), post(api.Ask, 3, 5, 18))
				run(t, p, fine(hear(post(1, 2, 3, 18)), post(api.Yes, 3, 2, 18)), fine(hear(post(api.Ask, 0, 3, 18))), fine(on("Free", 0)))
			}
			m.do(hear(post(kind, 2, 3, 18)))
			run(t, p, fine(hear(post(kind, 2, 3, 18)), m.do(out()).letters...))
			if got := p.p.Over(); !slices.Equal(got, []int{18}) {
				t.Errorf("room for %d: Over = %v", room, got)
			}
			m.check(t, p)
		}
	}
}

// P14.1 (I1): what needs no record needs no room.
func TestFullWithoutRecords(t *testing.T) {
	for name, x := range states() {
		if name == "active" {
			continue
		}
		m, p := made(t, 3, x...)
		m.follow(t, p, begin(34), put(34, "a", "two"), begin(50), on("Fill", 0), hear(post(api.Abort, 2, 3, 34)), hear(post(1, 2, 3, 50)), hear(post(api.Commit, 2, 3, 66)), hear(post(1, 2, 3, 18)), hear(post(api.Ask, 2, 3, 18)), out(), over())
		m.check(t, p)
	}
}

// P14.2: who said Yes is in doubt after each loss of power, with all changes, and says
// it again.
func TestPower(t *testing.T) {
	for keep := range 12 {
		for _, name := range []string{"prepared", "opened", "direct", "again ready"} {
			m, p := made(t, 3, states()[name]...)
			want := len(p.s.Changes(18))
			m.follow(t, p, begin(34), put(34, "c", "three"), power(keep), on("Image", 0), power(keep))
			knows(t, p, 18, 2)
			knows(t, p, 34, 0)
			if got := len(p.s.Changes(18)); got != want {
				t.Errorf("%s: %d changes, not %d", name, got, want)
			}
			m.check(t, p)
			run(t, p, fine(hear(post(1, 2, 3, 18)), post(api.Yes, 3, 2, 18)), fine(hear(post(api.Ask, 0, 3, 18))))
			ticks(t, p, 5, post(api.Ask, 3, 2, 18))
			run(t, p, fine(hear(post(api.Commit, 0, 3, 18)), post(api.Done, 3, 2, 18)), fine(power(keep)), fine(hear(post(1, 2, 3, 18)), post(api.No, 3, 2, 18)))
			if len(rowsOf(p.s)) == 0 {
				t.Errorf("%s: no rows", name)
			}
		}
	}
}

// P14.2, P14.3: from the letters alone: who said Yes stays prepared until a Commit or an
// Abort comes; rows change only by a Commit of one that said Yes, and then all of its
// changes are in them, whatever power does.
func TestVotesAreKept(t *testing.T) {
	r := rand.New(rand.NewPCG(5, 6))
	commits := 0
	for i := range 1200 {
		m, p := fresh(t, i%16)
		votes := map[int]bool{}
		for range 300 {
			s := m.anyStep(r, 10)
			if s.name == "Commit" || s.name == "Abort" || s.name == "Out" {
				continue
			}
			n, before := s.letter.Tx, rowsOf(p.s)
			after := maps.Clone(before)
			tx{changes: changesOf(p.s, n)}.apply(after)
			m.do(s)
			e := p.do(s).e
			told := s.name == "Hear" && e == api.OK
			decided := told && votes[n] && s.letter.Kind == api.Commit
			if !decided {
				after = before
			}
			if got := rowsOf(p.s); !maps.Equal(got, after) {
				t.Fatalf("%v: the rows are %v, not %v", s, got, after)
			}
			if decided {
				commits++
			}
			if told && (s.letter.Kind == api.Commit || s.letter.Kind == api.Abort) {
				delete(votes, n)
			}
			for _, l := range p.p.Out() {
				if l.Kind == api.Yes {
					votes[l.Tx] = true
				}
			}
			for n := range votes {
				if p.p.Known(n) != 2 {
					t.Fatalf("%v: Known(%d) = %d", s, n, p.p.Known(n))
				}
			}
			for _, n := range p.s.Doubts() { // an abort that power took
				votes[n] = true
			}
		}
	}
	if commits < 1000 {
		t.Errorf("only %d commits", commits)
	}
}

// changesOf are the changes of a transaction at a shard.
func changesOf(s *shard.Shard, n int) []change {
	var l []change
	for _, c := range s.Changes(n) {
		l = append(l, change{string(c.Key), string(c.Row), c.Drop})
	}
	return l
}

// P14.1 (I2): any number may be asked about.
func TestKnown(t *testing.T) {
	_, p := made(t, 3, states()["prepared"]...)
	for _, n := range []int{-1, -14, 0, 2, 3, 17, 19, 34, 18 + 1<<32, 1 << 40, 1<<40 + 1, 18 + 1<<40, math.MaxInt, math.MinInt} {
		knows(t, p, n, 0)
	}
	knows(t, p, 18, 2)
}

// Rule 8: on no participant, whatever the arguments are.
func TestNil(t *testing.T) {
	for _, x := range []*participant.Participant{nil, {}} {
		p := &pair{p: x}
		for _, s := range []step{hear(post(1, 2, 0, 18)), hear(post(api.Commit, 2, 0, 18)), hear(api.Letter{}), hear(post(1, 2, 3, 18, 99)), tick()} {
			if got := p.do(s); !got.same(outcome{e: api.ErrArg}) {
				t.Errorf("%v = %v", s, got)
			}
		}
		if x.Known(18) != 0 || x.Known(-1) != 0 || len(x.Out()) != 0 || len(x.Over()) != 0 {
			t.Errorf("Known = %d, Out = %v, Over = %v", x.Known(18), x.Out(), x.Over())
		}
	}
}

// P1: a shard that nobody opened.
func TestShardNotOpened(t *testing.T) {
	p, e := participant.New(&shard.Shard{}, 3)
	if p == nil || e != api.OK {
		return
	}
	for kind := api.LetterKind(0); kind < 10; kind++ {
		p.Hear(post(kind, 2, 3, 18))
		p.Tick()
		p.Known(18)
	}
	p.Out()
	p.Over()
}

// Rule 4: the nodes of a letter are neither changed nor kept, nor is memory behind them
// read.
func TestArguments(t *testing.T) {
	for _, behind := range []int{-1, 0, 9, 15, 99} {
		_, p := made(t, 3, states()["active"]...)
		for i := range 3 {
			memory := []int{4 + i, 7, behind, behind}
			run(t, p, fine(hear(api.Letter{Kind: api.Prepare, From: 2, To: 3, Tx: 18, Nodes: memory[:2]}), post(api.Yes, 3, 2, 18)))
			if !slices.Equal(memory, []int{4 + i, 7, behind, behind}) {
				t.Errorf("the argument is now %v", memory)
			}
			for k := range memory {
				memory[k] = 12
			}
			ticks(t, p, 5, post(api.Ask, 3, 2, 18), post(api.Ask, 3, 4+i, 18), post(api.Ask, 3, 7, 18))
		}
		memory := []int{behind, behind}
		run(t, p, fine(hear(api.Letter{Kind: api.Commit, From: 2, To: 3, Tx: 18, Nodes: memory[:0]}), post(api.Done, 3, 2, 18)))
	}
}

// Rule 4: answers are new memory: whoever changes one changes nothing else; and they
// stay as they are, whatever later calls do.
func TestNewMemory(t *testing.T) {
	m, p := made(t, 3, states()["active"]...)
	m.follow(t, p, hear(post(1, 2, 3, 18, 3, 4)), begin(34), begin(50), hear(post(1, 2, 3, 34)), hear(post(1, 2, 3, 50)))
	letters, ended := p.p.Out(), p.p.Over()
	m.do(out())
	m.do(over())
	for range 20 {
		m.follow(t, p, begin(66), hear(post(1, 2, 3, 66)), tick())
	}
	want := []api.Letter{post(api.Yes, 3, 2, 18), post(api.ReadOnly, 3, 2, 34), post(api.ReadOnly, 3, 2, 50)}
	if !slices.EqualFunc(letters, want, equal) || !slices.Equal(ended, []int{34, 50}) {
		t.Errorf("Out = %v, Over = %v", letters, ended)
	}
	for i := range letters[:cap(letters)] {
		letters[:cap(letters)][i] = api.Letter{Kind: 99}
	}
	for i := range ended[:cap(ended)] {
		ended[:cap(ended)][i] = 99
	}
	m.follow(t, p, out(), over(), hear(post(1, 2, 3, 34)), hear(post(api.Commit, 2, 3, 18)), out(), over())
	m.check(t, p)
}

// P2: what only tells changes nothing.
func TestTellingChangesNothing(t *testing.T) {
	for _, x := range states() {
		m, p := made(t, 3, x...)
		for range 3 {
			m.follow(t, p, tick(), tick())
			m.check(t, p)
		}
		m.follow(t, p, out(), over(), hear(post(1, 2, 3, 18, 0, 1)), out(), over())
	}
}

// P1: many transactions in doubt, and many that are over, answer in time.
func TestMany(t *testing.T) {
	_, p := fresh(t, 3)
	const count = 10000
	for n := range count {
		p.s.Begin(n)
		p.s.Put(n, "t", []byte(fmt.Sprint(n)), nil)
		p.p.Hear(post(1, 2, 3, n, 3, 4))
	}
	if got := p.p.Out(); len(got) != count || got[count-1].Kind != api.Yes {
		t.Fatalf("%d letters", len(got))
	}
	for range 50 {
		p.p.Tick()
	}
	if got := len(p.p.Out()); got < 10*count {
		t.Errorf("%d letters", got)
	}
	for n := range count {
		p.p.Hear(post(api.Commit, 2, 3, n))
	}
	if got := p.p.Over(); len(got) != count || len(rowsOf(p.s)) != count || p.p.Known(count-1) != 3 {
		t.Errorf("%d are over", len(got))
	}
	for range 1000 {
		p.p.Tick()
	}
}

// answers tells all that a participant answers in a long list of steps, as text.
func answers(t *testing.T) []string {
	r := rand.New(rand.NewPCG(7, 8))
	m, p := fresh(t, 6)
	var l []string
	for range 1000 {
		s := m.anyStep(r, 100)
		m.do(s)
		l = append(l, fmt.Sprint(s, p.do(s), p.p.Known(18), p.s.Doubts(), p.d.Safe(), p.d.End()))
	}
	return l
}

// P2: the same calls answer the same again, also when others call other participants
// at the same time.
func TestSameAgain(t *testing.T) {
	first := answers(t)
	again := make([][]string, 4)
	var wait sync.WaitGroup
	for i := range again {
		wait.Go(func() { again[i] = answers(t) })
	}
	wait.Wait()
	for _, l := range again {
		if !slices.Equal(l, first) {
			t.Error("the same calls have other answers")
		}
	}
}

// The example of README.md.
func TestReadmeExample(t *testing.T) {
	d := disk.New()
	s, _ := shard.Open(d)
	p, e := participant.New(s, 1)
	s.Begin(18)
	s.Put(18, "t", []byte("a"), []byte("one"))
	if f := p.Hear(post(api.Prepare, 2, 1, 18, 0, 1)); e != api.OK || f != api.OK {
		t.Errorf("New, Hear = %d, %d", e, f)
	}
	if l := p.Out(); len(l) != 1 || !equal(l[0], post(api.Yes, 1, 2, 18)) || p.Known(18) != 2 {
		t.Errorf("Out = %v, Known = %d", l, p.Known(18))
	}
	for range 5 {
		p.Tick()
	}
	if l := p.Out(); len(l) != 2 || !equal(l[0], post(api.Ask, 1, 2, 18)) || !equal(l[1], post(api.Ask, 1, 0, 18)) {
		t.Errorf("Out = %v", l)
	}
	s, _ = shard.Open(d.Power(0))
	p, e = participant.New(s, 1)
	if e != api.OK || p.Known(18) != 2 {
		t.Errorf("New = %d, Known = %d", e, p.Known(18))
	}
	p.Hear(post(api.Commit, 0, 1, 18))
	if l := p.Out(); len(l) != 1 || !equal(l[0], post(api.Done, 1, 2, 18)) || len(s.Rows("t")) != 1 {
		t.Errorf("Out = %v, Rows = %v", l, s.Rows("t"))
	}
	if l := p.Over(); !slices.Equal(l, []int{18}) {
		t.Errorf("Over = %v", l)
	}
	p.Hear(post(api.Ask, 0, 1, 18))
	if l := p.Out(); len(l) != 1 || !equal(l[0], post(api.Commit, 1, 0, 18)) {
		t.Errorf("Out = %v", l)
	}
}
