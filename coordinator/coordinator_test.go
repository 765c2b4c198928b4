package coordinator_test

import (
	"fmt"
	"math"
	"math/rand/v2"
	"slices"
	"sync"
	"testing"

	"frankpledge/api"
	"frankpledge/coordinator"
	"frankpledge/disk"
)

// line is a step of a script, with the answer and the letters that come of it, by hand.
type line struct {
	step
	want    outcome
	letters []api.Letter
}

// run does steps one by one on a coordinator, and holds each answer and the letters
// that Out has then against those by hand.
func run(t *testing.T, p *pair, lines ...line) {
	t.Helper()
	for i, x := range lines {
		if got := p.do(x.step); !got.same(x.want) {
			t.Errorf("line %d: %v = %v, not %v", i, x.step, got, x.want)
		}
		if got := p.c.Out(); !slices.EqualFunc(got, x.letters, equal) {
			t.Errorf("line %d: %v sends %v, not %v", i, x.step, got, x.letters)
		}
	}
}

func number(n int) outcome      { return outcome{n: n} }
func fails(e api.Errno) outcome { return outcome{e: e} }

// fine is a step that answers OK and sends letters.
func fine(s step, letters ...api.Letter) line { return line{step: s, letters: letters} }

// wrong is a step that answers an error and sends none.
func wrong(s step, e api.Errno) line { return line{step: s, want: fails(e)} }

// P13.1 (C1 to C4): a commit, an abort and a stop by hand.
func TestCalls(t *testing.T) {
	_, p := fresh(t, 3)
	run(t, p,
		line{step: begin(), want: number(3)},
		line{step: begin(), want: number(19)},
		line{step: begin(), want: number(35)},
		fine(ask(19, 0, 3, 15), post(1, 3, 0, 19, 0, 3, 15), post(1, 3, 3, 19, 0, 3, 15), post(1, 3, 15, 19, 0, 3, 15)),
		wrong(ask(19, 0, 3, 15), api.ErrState),
		fine(ask(3, 5, 6, 7), post(1, 3, 5, 3, 5, 6, 7), post(1, 3, 6, 3, 5, 6, 7), post(1, 3, 7, 3, 5, 6, 7)),
		fine(hear(post(api.Yes, 15, 3, 19))),
		fine(hear(post(api.ReadOnly, 3, 3, 19))),
		fine(hear(post(api.Yes, 0, 3, 19)), post(api.Commit, 3, 0, 19), post(api.Commit, 3, 15, 19)),
		fine(hear(post(api.Yes, 5, 3, 3))),
		fine(hear(post(api.No, 6, 3, 3)), post(api.Abort, 3, 5, 3), post(api.Abort, 3, 7, 3)),
		fine(hear(post(api.Done, 15, 3, 19))),
		fine(hear(post(api.Ask, 15, 3, 19)), post(api.Commit, 3, 15, 19)),
		fine(hear(post(api.Done, 0, 3, 19))),
		fine(hear(post(api.Ask, 15, 3, 19)), post(api.Abort, 3, 15, 19)),
		fine(ask(35, 1, 2), post(1, 3, 1, 35, 1, 2), post(1, 3, 2, 35, 1, 2)),
		fine(stop(35), post(api.Abort, 3, 1, 35), post(api.Abort, 3, 2, 35)),
		wrong(stop(35), api.ErrState),
	)
	want := []string{ints(0, 0), ints(1, 19, 1+1<<15), ints(2, 19)}
	if got := recordsOf(p.d); !slices.Equal(got, want) {
		t.Errorf("the log is %q, not %q", got, want)
	}
}

// P13.1 (C1 to C4): all lists of few steps, each from several beginnings.
func TestHistories(t *testing.T) {
	of := func(kind api.LetterKind, from int) step { return hear(post(kind, from, 3, 3)) }
	all := []step{
		begin(), ask(3, 0, 2), ask(19, 2), ask(3), stop(3), tick(), out(), reopen(), power(0), power(12),
		of(api.Yes, 0), of(api.Yes, 2), of(api.No, 0), of(api.ReadOnly, 0), of(api.ReadOnly, 2), of(api.Done, 0), of(api.Done, 2), of(api.Ask, 0), of(api.Yes, 1),
		hear(post(api.Yes, 2, 3, 19)),
	}
	asked := []step{begin(), ask(3, 0, 2)}
	committed := append(slices.Clip(asked), of(api.Yes, 0), of(api.Yes, 2))
	starts := [][]step{
		nil, asked, committed,
		{begin(), begin(), ask(3, 0, 2), ask(19, 2), tick(), tick(), tick()},
		append(slices.Clip(asked), of(api.ReadOnly, 0), tick(), tick(), tick(), tick()),
		append(slices.Clip(committed), of(api.Done, 0), tick(), tick(), tick(), tick()),
		append(slices.Clip(committed), of(api.Done, 0), of(api.Done, 2)),
	}
	for _, start := range starts {
		histories(all, 3, func(l []step) {
			m, p := fresh(t, 3)
			m.follow(t, p, start...)
			m.follow(t, p, l...)
			m.check(t, p)
			m.follow(t, p, out())
		})
	}
}

// P13.1 (C1 to C4): long lists of steps of some nodes, with losses of power.
func TestLongHistories(t *testing.T) {
	r := rand.New(rand.NewPCG(1, 2))
	for i := range 300 {
		nodes := 1 + i%5
		if i%10 == 0 {
			nodes = 16
		}
		m, p := fresh(t, i%16)
		for k := range 400 {
			m.follow(t, p, m.anyStep(r, nodes, 20+i))
			if k%10 == 0 {
				m.check(t, p)
			}
		}
		m.follow(t, p, out())
		m.check(t, p)
	}
}

// P13.1 (C1): numbers are those of the document, at each node and each opening.
func TestBegin(t *testing.T) {
	for node := range 16 {
		_, p := fresh(t, node)
		for incarnation := range 5 {
			for count := range 10 {
				want := 16*(65536*incarnation+count) + node
				if got := p.do(begin()); !got.same(number(want)) || p.c.State(want) != 1 {
					t.Errorf("Begin = %v, not %d; State = %d", got, want, p.c.State(want))
				}
			}
			if incarnation%2 == 0 {
				p.do(reopen())
			} else {
				p.do(power(incarnation))
			}
		}
	}
}

// P13.1 (C1): what became of others doesn't count for numbers.
func TestBeginGoesOn(t *testing.T) {
	m, p := fresh(t, 5)
	m.follow(t, p, begin(), stop(5), begin(), ask(21, 1), hear(post(api.ReadOnly, 1, 5, 21)))
	if got := m.follow(t, p, begin()); !got.same(number(37)) {
		t.Errorf("Begin = %v", got)
	}
}

// P13.1 (C1): 65536 transactions begin between two openings, and no more.
func TestBeginFull(t *testing.T) {
	_, p := fresh(t, 15)
	for i := range 65536 {
		if got := p.do(begin()); !got.same(number(16*i + 15)) {
			t.Fatalf("Begin = %v", got)
		}
		if i%3 > 0 {
			p.c.Stop(16*i + 15)
		}
	}
	for range 3 {
		if got := p.do(begin()); !got.same(fails(api.ErrFull)) {
			t.Errorf("Begin = %v", got)
		}
	}
	if got := len(p.c.Pending()); got != 21846 {
		t.Errorf("%d are pending", got)
	}
	run(t, p, fine(stop(15)), wrong(begin(), api.ErrFull), fine(reopen()), line{step: begin(), want: number(16*65536 + 15)})
}

// P13.1 (C2): participants are nodes, strictly increasing, at least one. Whoever is
// asked in vain may be asked again.
func TestAskArguments(t *testing.T) {
	for _, nodes := range [][]int{
		nil, {}, {-1}, {16}, {0, 0}, {1, 0}, {0, 2, 1}, {0, 16}, {-1, 0}, {3, 3, 3}, append(upTo(16), 16), append(upTo(16), 15), append(upTo(16), 0),
		{math.MinInt}, {math.MaxInt}, {0, math.MaxInt}, {1 << 32}, {256}, {0, 1, 2, 3, 4, 5, 6, 7, 8, 9, 10, 11, 12, 13, 15, 14}, make([]int, 1000),
	} {
		m, p := fresh(t, 3)
		m.follow(t, p, begin())
		run(t, p, wrong(ask(3, nodes...), api.ErrArg), wrong(ask(19, nodes...), api.ErrState))
		m.check(t, p)
		run(t, p, fine(ask(3, 4), post(1, 3, 4, 3, 4)), wrong(ask(3, nodes...), api.ErrState))
	}
}

// P13.1 (C2): each set of participants may be asked, and each one of them gets a
// letter of all.
func TestAskSets(t *testing.T) {
	for sum := 1; sum < 65536; sum += 1 + sum/50 {
		nodes := unbits(sum)
		_, p := fresh(t, 9)
		p.c.Begin()
		var want []api.Letter
		for _, n := range nodes {
			want = append(want, post(api.Prepare, 9, n, 9, nodes...))
		}
		run(t, p, fine(ask(9, nodes...), want...))
	}
}

// P13.1 (C2): Ask and Stop of a transaction that is not begun, in each state.
func TestErrState(t *testing.T) {
	for name, x := range states() {
		want := map[string]int{"begun": 2, "voting": 1, "half": 1}[name] // calls that are OK: 1 is Stop
		for i, s := range []step{stop(3), ask(3, 4)} {
			m, p := fresh(t, 3)
			m.follow(t, p, x...)
			if e := m.follow(t, p, s).e; (e == api.OK) != (i < want) || e != api.OK && e != api.ErrState {
				t.Errorf("%s: %v = %d", name, s, e)
			}
			m.follow(t, p, out())
			m.check(t, p)
		}
	}
	m, p := fresh(t, 3)
	m.follow(t, p, begin())
	for _, n := range []int{-1, 0, 1, 2, 4, 18, 19, 20, -13, 3 + 1<<32, 3 + 1<<40, math.MaxInt, math.MinInt} {
		run(t, p, wrong(ask(n, 1), api.ErrState), wrong(stop(n), api.ErrState))
		m.check(t, p)
	}
}

// states are the ways to bring transaction 3 of node 3 to where it can be. Its
// participants are 0, 1 and 2, of which 1 only reads, if it votes.
func states() map[string][]step {
	asked := []step{begin(), ask(3, 0, 1, 2), out()}
	of := func(kind api.LetterKind, from int) step { return hear(post(kind, from, 3, 3)) }
	with := func(l []step, more ...step) []step { return append(append(slices.Clone(l), more...), out()) }
	committed := with(asked, of(api.ReadOnly, 1), of(api.Yes, 0), of(api.Yes, 2))
	return map[string][]step{
		"new":       {},
		"begun":     {begin()},
		"voting":    asked,
		"half":      with(asked, of(api.Yes, 0), of(api.ReadOnly, 1)),
		"committed": committed,
		"opened":    with(committed, power(0)),
		"told":      with(committed, of(api.Done, 0)),
		"done":      with(committed, of(api.Done, 0), of(api.Done, 2)),
		"read":      with(asked, of(api.ReadOnly, 0), of(api.ReadOnly, 1), of(api.ReadOnly, 2)),
		"no":        with(asked, of(api.No, 2)),
		"stopped":   with(asked, stop(3)),
		"stopped0":  {begin(), stop(3)},
		"lost":      with(asked, of(api.Yes, 0), power(0)),
		"lost0":     {begin(), power(0)},
	}
}

// P13.1 (C3): what each letter does in each state: by hand, which letters are sent. To
// Ask and Yes, something goes back unless it is open how the transaction ends.
func TestHear(t *testing.T) {
	back := map[string]api.LetterKind{
		"new": api.Abort, "committed": api.Commit, "opened": api.Commit, "told": api.Commit, "done": api.Abort, "read": api.Abort,
		"no": api.Abort, "stopped": api.Abort, "stopped0": api.Abort, "lost": api.Abort, "lost0": api.Abort,
	}
	for name, x := range states() {
		for kind := api.Prepare; kind <= api.Ask; kind++ {
			for _, from := range []int{0, 1, 2, 3, 15} {
				var want []api.Letter
				if k := back[name]; k != 0 && (kind == api.Ask || kind == api.Yes) {
					want = []api.Letter{post(k, 3, from, 3)}
				}
				switch {
				case name == "half" && kind == api.No && from == 2, name == "voting" && kind == api.No && from < 3:
					for _, n := range []int{0, 1, 2} {
						if n != from {
							want = append(want, post(api.Abort, 3, n, 3))
						}
					}
				case name == "half" && kind == api.Yes && from == 2:
					want = []api.Letter{post(api.Commit, 3, 0, 3), post(api.Commit, 3, 2, 3)}
				case name == "half" && kind == api.ReadOnly && from == 2:
					want = []api.Letter{post(api.Commit, 3, 0, 3)}
				}
				m, p := fresh(t, 3)
				m.follow(t, p, x...)
				if got := m.follow(t, p, hear(post(kind, from, 3, 3))); !got.same(outcome{}) {
					t.Errorf("%s: %d from %d = %v", name, kind, from, got)
				}
				if got := m.follow(t, p, out()).letters; !slices.EqualFunc(got, want, equal) {
					t.Errorf("%s: %d from %d sends %v, not %v", name, kind, from, got, want)
				}
				m.check(t, p)
			}
		}
	}
}

// P13.1 (C3): votes of one to four participants, each Yes, No or ReadOnly, in each
// order. The first No ends it, whatever comes then.
func TestVotes(t *testing.T) {
	kinds := []api.LetterKind{api.Yes, api.No, api.ReadOnly}
	for count := 1; count <= 4; count++ {
		nodes := []int{1, 3, 4, 15}[:count]
		for code := range 81 {
			for _, order := range orders(count) {
				_, p := fresh(t, 3)
				p.do(begin())
				p.do(ask(3, nodes...))
				p.c.Out()
				checkVotes(t, p, nodes, order, func(i int) api.LetterKind { return kinds[code/[]int{1, 3, 9, 27}[i]%3] })
			}
		}
	}
}

// checkVotes has participants vote in an order, and holds what is sent against what
// the votes ask for.
func checkVotes(t *testing.T, p *pair, nodes, order []int, vote func(int) api.LetterKind) {
	t.Helper()
	var yes []int
	no := -1
	for k, i := range order {
		p.do(hear(post(vote(i), nodes[i], 3, 3)))
		got := p.c.Out()
		var want []api.Letter
		switch {
		case no >= 0 && vote(i) == api.Yes:
			want = append(want, post(api.Abort, 3, nodes[i], 3))
		case no >= 0:
		case vote(i) == api.No:
			no = i
			for _, n := range nodes {
				if n != nodes[i] {
					want = append(want, post(api.Abort, 3, n, 3))
				}
			}
		case vote(i) == api.Yes:
			yes = append(yes, nodes[i])
		}
		slices.Sort(yes)
		if no < 0 && k == len(nodes)-1 {
			for _, n := range yes {
				want = append(want, post(api.Commit, 3, n, 3))
			}
		}
		if !slices.EqualFunc(got, want, equal) {
			t.Fatalf("%v in the order %v: %v, not %v", nodes, order, got, want)
		}
	}
	log := []string{ints(0, 0)}
	state := 0
	if no < 0 && len(yes) > 0 {
		log, state = append(log, ints(1, 3, bits(yes))), 2
	}
	if got := recordsOf(p.d); !slices.Equal(got, log) || p.d.Safe() != p.d.End() || p.c.State(3) != state {
		t.Fatalf("State = %d, and the log is %q, not %d, %q", p.c.State(3), got, state, log)
	}
}

// orders are all orders of the first so many numbers.
func orders(n int) [][]int {
	if n == 0 {
		return [][]int{{}}
	}
	var l [][]int
	for _, o := range orders(n - 1) {
		for at := range n {
			l = append(l, slices.Insert(slices.Clone(o), at, n-1))
		}
	}
	return l
}

// P13.1 (C3): the first vote of a participant counts, and those of others don't.
func TestFirstVoteCounts(t *testing.T) {
	votes := []api.LetterKind{api.Yes, api.ReadOnly}
	for _, first := range votes {
		for _, again := range []api.LetterKind{api.Yes, api.No, api.ReadOnly} {
			_, p := fresh(t, 3)
			p.do(begin())
			p.do(ask(3, 1, 2))
			p.c.Out()
			run(t, p, fine(hear(post(first, 1, 3, 3))), fine(hear(post(again, 1, 3, 3))), fine(hear(post(again, 0, 3, 3))), fine(hear(post(again, 3, 3, 3))))
			if p.c.State(3) != 1 {
				t.Errorf("%d, %d: State = %d", first, again, p.c.State(3))
			}
			want := []api.Letter{post(api.Commit, 3, 1, 3), post(api.Commit, 3, 2, 3)}
			if first == api.ReadOnly {
				want = want[1:]
			}
			run(t, p, fine(hear(post(api.Yes, 2, 3, 3)), want...))
		}
	}
}

// P13.1 (C3): Done counts once for each participant that voted Yes, and for no other
// node; the last one is logged, without syncing.
func TestDone(t *testing.T) {
	m, p := fresh(t, 3)
	m.follow(t, p, states()["committed"]...)
	for _, from := range []int{0, 1, 3, 4, 15, 0, 0} {
		run(t, p, fine(hear(post(api.Done, from, 3, 3))))
		if p.c.State(3) != 2 || len(p.c.Pending()) != 1 {
			t.Fatalf("Done of %d: State = %d", from, p.c.State(3))
		}
	}
	safe := p.d.End()
	run(t, p, fine(hear(post(api.Done, 2, 3, 3))))
	if p.c.State(3) != 0 || len(p.c.Pending()) != 0 || p.d.Safe() != safe || p.d.End() != safe+5+len(ints(2, 3)) {
		t.Errorf("State = %d; Safe is %d, End %d, and it was %d", p.c.State(3), p.d.Safe(), p.d.End(), safe)
	}
	run(t, p, fine(hear(post(api.Done, 2, 3, 3))))
	want := []string{ints(0, 0), ints(1, 3, 5), ints(2, 3)}
	if got := recordsOf(p.d); !slices.Equal(got, want) {
		t.Errorf("the log is %q, not %q", got, want)
	}
}

// P13.1 (C3): letters that are not valid, not to this node, or of a transaction of
// another node, in each state. Nothing comes of them.
func TestErrLetter(t *testing.T) {
	for _, x := range states() {
		m, p := fresh(t, 3)
		m.follow(t, p, x...)
		for kind := api.LetterKind(-1); kind <= 10; kind++ {
			for _, l := range []api.Letter{
				post(kind, 0, 2, 3), post(kind, 0, 4, 3), post(kind, 3, 0, 3), post(kind, 0, 3, 4), post(kind, 0, 3, 2), post(kind, 0, 3, 0), post(kind, 0, 3, 16),
				post(kind, 0, 3, 1<<40), post(kind, 2, 3, -13), post(kind, 0, 3, 3+1<<40), post(kind, -1, 3, 3), post(kind, 16, 3, 3), post(kind, 0, -1, 3), post(kind, 0, 16, 3),
				post(kind, 0, 19, 3), post(kind, math.MaxInt, 3, 3), post(kind, 0, 3, math.MinInt+3), post(kind, 0, 3, 3, 1, 0), post(kind, 0, 3, 3, 16),
			} {
				run(t, p, wrong(hear(l), api.ErrLetter))
			}
			if kind != api.Prepare {
				run(t, p, wrong(hear(post(kind, 0, 3, 3, 0)), api.ErrLetter))
			}
			if kind < 1 || kind > 8 {
				run(t, p, wrong(hear(post(kind, 0, 3, 3)), api.ErrLetter))
			}
		}
		m.check(t, p)
	}
}

// P13.1 (C3): letters to each node, of the least and the greatest of its numbers.
func TestHearNodes(t *testing.T) {
	for node := range 16 {
		_, p := fresh(t, node)
		for _, n := range []int{node, node + 16, 1<<40 - 16 + node} {
			run(t, p, fine(hear(post(api.Ask, 7, node, n)), post(api.Abort, node, 7, n)))
		}
		want := line{step: hear(post(api.Yes, 7, node, 1<<40)), want: fails(api.ErrLetter)}
		if node == 0 {
			want = fine(want.step, post(api.Abort, 0, 7, 1<<40))
		}
		run(t, p, want)
	}
}

// ticks does so many ticks, of which the last one alone sends letters.
func ticks(t *testing.T, p *pair, n int, letters ...api.Letter) {
	t.Helper()
	for range n - 1 {
		run(t, p, fine(tick()))
	}
	run(t, p, fine(tick(), letters...))
}

// P13.1 (C4): every five ticks those are asked that have not voted; the time is that
// since Ask, whatever others do.
func TestTickAsks(t *testing.T) {
	_, p := fresh(t, 3)
	p.do(begin())
	ticks(t, p, 7)
	run(t, p, fine(ask(3, 0, 1, 2), post(1, 3, 0, 3, 0, 1, 2), post(1, 3, 1, 3, 0, 1, 2), post(1, 3, 2, 3, 0, 1, 2)))
	ticks(t, p, 5, post(1, 3, 0, 3, 0, 1, 2), post(1, 3, 1, 3, 0, 1, 2), post(1, 3, 2, 3, 0, 1, 2))
	ticks(t, p, 4)
	run(t, p, fine(hear(post(api.ReadOnly, 1, 3, 3))))
	ticks(t, p, 1, post(1, 3, 0, 3, 0, 1, 2), post(1, 3, 2, 3, 0, 1, 2))
	run(t, p, fine(hear(post(api.Yes, 0, 3, 3))), fine(hear(post(api.Ask, 0, 3, 3))))
	ticks(t, p, 5, post(1, 3, 2, 3, 0, 1, 2))
	ticks(t, p, 5, post(1, 3, 2, 3, 0, 1, 2))
	run(t, p, fine(hear(post(api.No, 2, 3, 3)), post(api.Abort, 3, 0, 3), post(api.Abort, 3, 1, 3)))
	ticks(t, p, 20)
}

// P13.1 (C4): every five ticks those are told that have not answered; the time is that
// since the decision, and answers to those that ask don't count.
func TestTickTells(t *testing.T) {
	_, p := fresh(t, 3)
	p.do(begin())
	p.do(ask(3, 0, 1, 2))
	p.c.Out()
	ticks(t, p, 4)
	run(t, p, fine(hear(post(api.Yes, 2, 3, 3))), fine(hear(post(api.Yes, 0, 3, 3))))
	run(t, p, fine(hear(post(api.Yes, 1, 3, 3)), post(api.Commit, 3, 0, 3), post(api.Commit, 3, 1, 3), post(api.Commit, 3, 2, 3)))
	ticks(t, p, 3)
	run(t, p, fine(hear(post(api.Ask, 2, 3, 3)), post(api.Commit, 3, 2, 3)), fine(hear(post(api.Yes, 1, 3, 3)), post(api.Commit, 3, 1, 3)))
	ticks(t, p, 2, post(api.Commit, 3, 0, 3), post(api.Commit, 3, 1, 3), post(api.Commit, 3, 2, 3))
	run(t, p, fine(hear(post(api.Done, 1, 3, 3))))
	ticks(t, p, 5, post(api.Commit, 3, 0, 3), post(api.Commit, 3, 2, 3))
	run(t, p, fine(hear(post(api.Done, 0, 3, 3))))
	ticks(t, p, 5, post(api.Commit, 3, 2, 3))
	ticks(t, p, 3)
	run(t, p, fine(power(0)))
	ticks(t, p, 5, post(api.Commit, 3, 0, 3), post(api.Commit, 3, 1, 3), post(api.Commit, 3, 2, 3))
	run(t, p, fine(hear(post(api.Done, 0, 3, 3))), fine(hear(post(api.Done, 1, 3, 3))), fine(hear(post(api.Done, 2, 3, 3))))
	ticks(t, p, 20)
}

// P13.1 (C4): one Tick may ask and tell for several transactions: by their numbers, not
// in the order in which they were asked or decided.
func TestTickOrder(t *testing.T) {
	_, p := fresh(t, 3)
	for range 40 {
		p.do(begin())
	}
	var want []api.Letter
	for i := 39; i >= 0; i-- {
		n := 16*i + 3
		if i%5 == 4 {
			continue
		}
		p.do(ask(n, i%4, 9))
		if i%2 == 0 {
			p.do(hear(post(api.Yes, i%4, 3, n)))
			p.do(hear(post(api.Yes, 9, 3, n)))
		}
	}
	for i := range 40 {
		n := 16*i + 3
		switch {
		case i%5 == 4:
		case i%2 == 0:
			want = append(want, post(api.Commit, 3, i%4, n), post(api.Commit, 3, 9, n))
		default:
			want = append(want, post(api.Prepare, 3, i%4, n, i%4, 9), post(api.Prepare, 3, 9, n, i%4, 9))
		}
	}
	p.c.Out()
	ticks(t, p, 5, want...)
	ticks(t, p, 5, want...)
}

// P13.1 (C4): Out has all letters in the order in which they arose, and has each one
// once.
func TestOut(t *testing.T) {
	_, p := fresh(t, 3)
	if got := p.c.Out(); len(got) != 0 {
		t.Errorf("Out = %v", got)
	}
	for _, s := range []step{begin(), begin(), ask(19, 1, 2), ask(3, 0), hear(post(api.Yes, 0, 3, 3)), hear(post(api.Ask, 7, 3, 99)), stop(19)} {
		p.do(s)
	}
	want := []api.Letter{
		post(1, 3, 1, 19, 1, 2), post(1, 3, 2, 19, 1, 2), post(1, 3, 0, 3, 0), post(api.Commit, 3, 0, 3), post(api.Abort, 3, 7, 99),
		post(api.Abort, 3, 1, 19), post(api.Abort, 3, 2, 19),
	}
	if got := p.c.Out(); !slices.EqualFunc(got, want, equal) {
		t.Errorf("Out = %v", got)
	}
	if got := p.c.Out(); len(got) != 0 {
		t.Errorf("Out = %v", got)
	}
}

// P13.1 (C4): Pending and State of transactions that come and go.
func TestPending(t *testing.T) {
	m, p := fresh(t, 3)
	for i := range 200 {
		m.follow(t, p, begin())
		if i%3 > 0 {
			m.follow(t, p, ask(16*i+3, 0))
		}
		if i%3 > 1 {
			m.follow(t, p, hear(post(api.Yes, 0, 3, 16*i+3)))
		}
	}
	m.check(t, p)
	r := rand.New(rand.NewPCG(3, 4))
	for _, i := range r.Perm(200) {
		m.follow(t, p, stop(16*i+3), hear(post(api.Done, 0, 3, 16*i+3)))
		if i%10 == 0 {
			m.check(t, p)
		}
	}
	if got := p.c.Pending(); len(got) != 0 {
		t.Errorf("Pending = %v", got)
	}
}

// Rule 8: on no coordinator, whatever the arguments are.
func TestNil(t *testing.T) {
	for _, c := range []*coordinator.Coordinator{nil, {}} {
		p := &pair{c: c}
		for _, s := range []step{begin(), ask(0, 1), ask(0), ask(-1, 7, 7), hear(post(api.Yes, 1, 0, 0)), hear(api.Letter{}), tick(), stop(0), stop(-1)} {
			if got := p.do(s); !got.same(fails(api.ErrArg)) {
				t.Errorf("%v = %v", s, got)
			}
		}
		if c.State(0) != 0 || len(c.Pending()) != 0 || len(c.Out()) != 0 {
			t.Errorf("State = %d, Pending = %v, Out = %v", c.State(0), c.Pending(), c.Out())
		}
	}
}

// Rule 4: nodes are neither changed nor kept, nor is memory behind them read.
func TestArguments(t *testing.T) {
	for _, behind := range []int{-1, 0, 3, 15, 99} {
		memory := []int{1, 2, behind, behind}
		_, p := fresh(t, 3)
		p.c.Begin()
		if e := p.c.Ask(3, memory[:2]); e != api.OK || !slices.Equal(memory, []int{1, 2, behind, behind}) {
			t.Errorf("Ask = %d, and the argument is now %v", e, memory)
		}
		for i := range memory {
			memory[i] = 7
		}
		asked := []api.Letter{post(1, 3, 1, 3, 1, 2), post(1, 3, 2, 3, 1, 2)}
		if got := p.c.Out(); !slices.EqualFunc(got, asked, equal) {
			t.Errorf("Out = %v", got)
		}
		ticks(t, p, 5, asked...)
		memory = []int{1, 2, behind}
		p.c.Hear(post(api.Prepare, 1, 3, 3, memory[:2]...))
		if !slices.Equal(memory, []int{1, 2, behind}) {
			t.Errorf("the letter has %v", memory)
		}
		p.c.Hear(api.Letter{Kind: api.Yes, From: 1, To: 3, Tx: 3, Nodes: memory[:0]})
		ticks(t, p, 5, post(1, 3, 2, 3, 1, 2))
	}
}

// Rule 4: answers are new memory: whoever changes one changes no other, and not the
// coordinator.
func TestNewMemory(t *testing.T) {
	spoil := func(l []int) {
		for i := range l[:cap(l)] {
			l[:cap(l)][i] = 99
		}
	}
	_, p := fresh(t, 3)
	p.c.Begin()
	p.c.Begin()
	p.c.Ask(3, []int{0, 1, 2})
	for range 3 {
		for range 5 {
			p.c.Tick()
		}
		l := p.c.Out()
		for i := range l {
			if !slices.Equal(l[i].Nodes, []int{0, 1, 2}) {
				t.Errorf("letter %d names %v", i, l[i].Nodes)
			}
			spoil(l[i].Nodes)
		}
		clear(l[:cap(l)])
		if got := p.c.Pending(); !slices.Equal(got, []int{3, 19}) {
			t.Errorf("Pending = %v", got)
		}
		spoil(p.c.Pending())
	}
	for from := range 3 {
		p.c.Hear(post(api.Yes, from, 3, 3))
	}
	if got := p.c.Out(); len(got) != 3 || !equal(got[2], post(api.Commit, 3, 2, 3)) {
		t.Errorf("Out = %v", got)
	}
}

// Rule 4: answers stay as they are, whatever later calls do.
func TestAnswersStay(t *testing.T) {
	_, p := fresh(t, 3)
	p.c.Begin()
	p.c.Ask(3, []int{0, 5})
	letters, pending := p.c.Out(), p.c.Pending()
	for i := range 200 {
		n, _ := p.c.Begin()
		p.c.Ask(n, []int{i % 16})
		p.c.Tick()
		p.c.Stop(n)
		if i%7 == 0 {
			p.c.Out()
		}
	}
	p.c.Stop(3)
	want := []api.Letter{post(1, 3, 0, 3, 0, 5), post(1, 3, 5, 3, 0, 5)}
	if !slices.EqualFunc(letters, want, equal) || !slices.Equal(pending, []int{3}) {
		t.Errorf("Out = %v, Pending = %v", letters, pending)
	}
}

// history tells all that a coordinator answers in a long list of steps, as text.
func history(t *testing.T) []string {
	r := rand.New(rand.NewPCG(7, 8))
	m, p := fresh(t, 6)
	var l []string
	for range 1000 {
		s := m.anyStep(r, 4, 100)
		m.do(s)
		l = append(l, fmt.Sprint(s, p.do(s), p.c.Pending(), p.d.Safe(), p.d.End()))
	}
	return l
}

// P2: the same calls answer the same again, also when others call other coordinators
// at the same time.
func TestSameAgain(t *testing.T) {
	want := history(t)
	var group sync.WaitGroup
	for range 8 {
		group.Go(func() {
			if got := history(t); !slices.Equal(got, want) {
				t.Error("the same calls answered something else")
			}
		})
	}
	group.Wait()
}

// P2: coordinators on other disks are others.
func TestApart(t *testing.T) {
	_, a := fresh(t, 3)
	_, b := fresh(t, 3)
	a.c.Begin()
	a.c.Ask(3, []int{1})
	if b.c.State(3) != 0 || len(b.c.Out()) != 0 || len(b.c.Pending()) != 0 {
		t.Error("another coordinator knows of it")
	}
	run(t, b, line{step: begin(), want: number(3)}, fine(stop(3)))
	run(t, a, fine(hear(post(api.Yes, 1, 3, 3)), post(1, 3, 1, 3, 1), post(api.Commit, 3, 1, 3)))
}

// P1: many transactions at a time, and many letters, are done in time.
func TestMany(t *testing.T) {
	_, p := fresh(t, 3)
	for i := range 20000 {
		n, _ := p.c.Begin()
		p.c.Ask(n, upTo(16))
		for from := range i % 17 {
			p.c.Hear(post(api.Yes, from, 3, n))
		}
	}
	for range 6 {
		p.c.Tick()
	}
	p.c.Out()
	if got := len(p.c.Pending()); got != 20000 {
		t.Errorf("%d are pending", got)
	}
	for i := range 20000 {
		for from := range 16 {
			p.c.Hear(post(api.Done, from, 3, 16*i+3))
		}
	}
	if got := len(p.c.Pending()); got != 20000-20000/17 {
		t.Errorf("%d are pending", got)
	}
}

// The example of README.md.
func TestReadmeExample(t *testing.T) {
	d := disk.New()
	c, e := coordinator.Open(d, 3)
	tx, f := c.Begin()
	if e != api.OK || f != api.OK || tx != 3 {
		t.Errorf("Open = %d, Begin = %d, %d", e, tx, f)
	}
	if e := c.Ask(tx, []int{0, 1, 2}); e != api.OK {
		t.Errorf("Ask = %d", e)
	}
	l := c.Out()
	if len(l) != 3 || !equal(l[2], post(api.Prepare, 3, 2, 3, 0, 1, 2)) {
		t.Errorf("Out = %v", l)
	}
	for _, l := range []api.Letter{post(api.Yes, 0, 3, 3), post(api.ReadOnly, 1, 3, 3), post(api.Yes, 2, 3, 3)} {
		if e := c.Hear(l); e != api.OK {
			t.Errorf("Hear(%v) = %d", l, e)
		}
	}
	l = c.Out()
	if len(l) != 2 || !equal(l[0], post(api.Commit, 3, 0, 3)) || !equal(l[1], post(api.Commit, 3, 2, 3)) || c.State(tx) != 2 {
		t.Errorf("Out = %v, State = %d", l, c.State(tx))
	}
	c, _ = coordinator.Open(d.Power(0), 3)
	if l := c.Pending(); !slices.Equal(l, []int{3}) {
		t.Errorf("Pending = %v", l)
	}
	c.Hear(post(api.Done, 0, 3, 3))
	c.Hear(post(api.Done, 2, 3, 3))
	if c.State(tx) != 0 {
		t.Errorf("State = %d", c.State(tx))
	}
	c.Hear(post(api.Ask, 1, 3, 3))
	if l := c.Out(); len(l) != 1 || !equal(l[0], post(api.Abort, 3, 1, 3)) {
		t.Errorf("Out = %v", l)
	}
	if tx, e = c.Begin(); tx != 1048579 || e != api.OK {
		t.Errorf("Begin = %d, %d", tx, e)
	}
}
