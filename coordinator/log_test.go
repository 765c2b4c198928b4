package coordinator_test

import (
	"math"
	"math/rand/v2"
	"slices"
	"strings"
	"testing"

	"frankpledge/api"
	"frankpledge/coordinator"
	"frankpledge/disk"
	"frankpledge/wal"
)

// whole, text and null are values of a record.
func whole(n int) api.Value   { return api.Value{Kind: api.Int, N: int64(n)} }
func text(s string) api.Value { return api.Value{Kind: api.Text, S: s} }

// P13.1 (C1): what is no node or no disk. The disk stays as it is.
func TestOpenErrArg(t *testing.T) {
	for _, node := range []int{-1, 16, 17, 19, 256, 1 << 32, -16, math.MinInt, math.MaxInt} {
		d := disk.New()
		d.Append([]byte("abc"))
		if c, e := coordinator.Open(d, node); c != nil || e != api.ErrArg {
			t.Errorf("Open(%d) = %v, %d", node, c, e)
		}
		if c, e := coordinator.Open(nil, node); c != nil || e != api.ErrArg {
			t.Errorf("Open(nil, %d) = %v, %d", node, c, e)
		}
		if d.End() != 3 || d.Safe() != 0 {
			t.Errorf("End is %d, Safe %d", d.End(), d.Safe())
		}
	}
	for node := range 16 {
		if c, e := coordinator.Open(nil, node); c != nil || e != api.ErrArg {
			t.Errorf("Open(nil, %d) = %v, %d", node, c, e)
		}
		if c, e := coordinator.Open(disk.New(), node); c == nil || e != api.OK {
			t.Errorf("Open(%d) = %v, %d", node, c, e)
		}
	}
}

// P13.1 (C1): each opening is logged and synced, and the records are those of the
// document, byte by byte.
func TestRecords(t *testing.T) {
	m, p := fresh(t, 3)
	m.follow(t, p, states()["told"]...)
	m.follow(t, p, hear(post(api.Done, 2, 3, 3)), reopen(), begin(), ask(1048579, 15), hear(post(api.Yes, 15, 3, 1048579)), reopen())
	want := []string{
		"\x02\x02\x00\x02\x00",
		"\x03\x02\x02\x02\x06\x02\x0a",
		"\x02\x02\x04\x02\x06",
		"\x02\x02\x00\x02\x02",
		"\x03\x02\x02\x02\x86\x80\x80\x01\x02\x80\x80\x04",
		"\x02\x02\x00\x02\x04",
	}
	if got := recordsOf(p.d); !slices.Equal(got, want) || p.d.Safe() != p.d.End() {
		t.Errorf("the log is %q, not %q; Safe is %d, End %d", got, want, p.d.Safe(), p.d.End())
	}
}

// P13.1: records with some numbers, of which each one has the effect that the document
// names, and those that have none.
func TestRecovery(t *testing.T) {
	none := []string{
		encoded(), ints(0), ints(1), ints(2), ints(0, 0, 0), ints(2, 3, 1), ints(1, 3), ints(1, 3, 1, 1), ints(3, 3), ints(3, 3, 1), ints(-1, 3), ints(-1, 3, 1),
		ints(1, 3, 0), ints(1, 3, -1), ints(1, 3, 65536), ints(1, 3, 65537), ints(1, 3, 1<<32+1), ints(1, 3, math.MaxInt), ints(1, 3, math.MinInt),
		ints(1, -1, 1), ints(1, -13, 1), ints(1, 1<<40+1, 1), ints(1, 3+1<<40, 1), ints(1, math.MinInt, 1), ints(1, math.MaxInt, 1), ints(257, 3, 1), ints(1+1<<32, 3, 1),
		ints(0, -1), ints(0, 1<<40+1), ints(256, 0), ints(1<<32, 0),
		encoded(whole(0), text("0")), encoded(text("0"), whole(0)), encoded(whole(0), api.Value{}), encoded(whole(0), api.Value{Kind: api.Bool}), encoded(whole(0), api.Value{Kind: api.Dec}),
		encoded(whole(1), whole(3), api.Value{Kind: api.Bool, N: 1}), encoded(whole(1), whole(3), api.Value{Kind: api.Dec, N: 7}), encoded(whole(1), api.Value{Kind: api.Dec, N: 3}, whole(1)),
		encoded(api.Value{Kind: api.Bool, N: 1}, whole(3), whole(1)), encoded(api.Value{Kind: api.Dec, N: 1}, whole(3), whole(1)), encoded(whole(1), whole(3), api.Value{Kind: api.Bytes, S: "\x01"}),
		"x", "\x00\x00", strings.Repeat("\xff", 4096), ints(0, 0) + "\x00", ints(0, 0)[:4], "\x02\x02\x80\x00\x02\x00", ints(1, 3, 5)[:6], ints(1, 3, 5) + "\x02",
	}
	for _, s := range none {
		checkOpened(t, []string{s}, 0)
		checkOpened(t, []string{ints(0, 0), s, ints(1, 19, 7), s, s}, 1, 19)
	}
	checkOpened(t, none, 0)
	checkOpened(t, nil, 0)
	checkOpened(t, []string{ints(1, 3, 1)}, 0, 3)
	checkOpened(t, []string{ints(1, 0, 65535), ints(1, 1<<40, 1)}, 0, 0, 1<<40)
	checkOpened(t, []string{ints(0, 0), ints(1, 3, 1), ints(1, 19, 2), ints(2, 3)}, 1, 19)
	checkOpened(t, []string{ints(1, 3, 1), ints(0, 0), ints(1, 19, 2), ints(2, 35), ints(0, 1)}, 2, 3, 19)
	checkOpened(t, []string{ints(1, 35, 1), ints(2, 35), ints(2, 35), ints(0, 0)}, 1)
	checkOpened(t, []string{ints(0, 0), ints(0, 1), ints(0, 2), ints(1, 1<<20+3, 4)}, 3, 1<<20+3)
}

// checkOpened holds what a coordinator at node 3 has of a log against what it is to
// have: its incarnation, and the transactions that are committed.
func checkOpened(t *testing.T, log []string, incarnation int, committed ...int) {
	t.Helper()
	d := logged(t, log...)
	c, e := coordinator.Open(d, 3)
	if e != api.OK {
		t.Fatalf("%q: Open = %d", log, e)
	}
	if got := c.Pending(); !slices.Equal(got, committed) {
		t.Errorf("%q: Pending = %v, not %v", log, got, committed)
	}
	for _, n := range committed {
		if c.State(n) != 2 {
			t.Errorf("%q: State(%d) = %d", log, n, c.State(n))
		}
	}
	want := append(slices.Clone(log), ints(0, incarnation))
	if got := recordsOf(d); !slices.Equal(got, want) || d.Safe() != d.End() {
		t.Errorf("the log is %q, not %q", got, want)
	}
	if len(c.Out()) != 0 {
		t.Errorf("%q: letters", log)
	}
	x := &pair{3, d, c}
	ticks(t, x, 4)
	if x.do(tick()); (len(c.Out()) > 0) != (len(committed) > 0) {
		t.Errorf("%q: five ticks", log)
	}
	if n, _ := c.Begin(); n != 16*65536*incarnation+3 && !slices.Contains(committed, 3) {
		t.Errorf("%q: Begin = %d", log, n)
	}
}

// P13.2: even where a log that others made tells a commit of a number that comes only
// now, it stays committed.
func TestBeginOverCommitted(t *testing.T) {
	_, p := laid(t, 3, ints(1, 3, 5))
	p.c.Begin()
	if p.c.State(3) != 2 {
		t.Errorf("State = %d", p.c.State(3))
	}
	run(t, p, wrong(stop(3), api.ErrState), wrong(ask(3, 1), api.ErrState), fine(hear(post(api.Ask, 2, 3, 3)), post(api.Commit, 3, 2, 3)))
	ticks(t, p, 5, post(api.Commit, 3, 0, 3), post(api.Commit, 3, 2, 3))
}

// P13.1 (C1): all lists of few records.
func TestShortLogs(t *testing.T) {
	var all []step
	records := []string{ints(0, 0), ints(0, 7), ints(1, 3, 5), ints(1, 3, 2), ints(1, 19, 65535), ints(2, 3), ints(2, 19), ints(1, 3, 0), ints(7)}
	for i := range records {
		all = append(all, step{n: i})
	}
	histories(all, 4, func(l []step) {
		var log []string
		for _, s := range l {
			log = append(log, records[s.n])
		}
		m, p := laid(t, 3, log...)
		m.check(t, p)
		m.follow(t, p, tick(), tick(), tick(), tick(), tick(), out(), hear(post(api.Done, 0, 3, 3)), hear(post(api.Done, 2, 3, 3)), hear(post(api.Done, 1, 3, 3)))
		m.check(t, p)
	})
}

// P13.1 (C1), P1: logs of any records, much like those of a coordinator.
func TestAnyLogs(t *testing.T) {
	r := rand.New(rand.NewPCG(5, 6))
	for range 3000 {
		var log []string
		for range r.IntN(12) {
			l := []int{r.IntN(5) - 1, 16*r.IntN(3) + 3, r.IntN(70000)}[:1+r.IntN(3)]
			s := []byte(ints(l...))
			if r.IntN(4) == 0 {
				s[r.IntN(len(s))] = byte(r.IntN(12))
			}
			log = append(log, string(s))
		}
		m, p := laid(t, 3, log...)
		m.check(t, p)
		m.follow(t, p, tick(), tick(), tick(), tick(), tick(), out())
	}
}

// P13.1 (C1): an incarnation of 65536 is the last one. Then the disk stays as it is.
func TestIncarnations(t *testing.T) {
	log := slices.Repeat([]string{ints(0, 65535)}, 65536)
	m, p := laid(t, 3, log...)
	if got := m.follow(t, p, begin()); !got.same(number(16*65536*65536 + 3)) {
		t.Errorf("Begin = %v", got)
	}
	p.d.Append([]byte("L"))
	safe, end := p.d.Safe(), p.d.End()
	for range 2 {
		if c, e := coordinator.Open(p.d, 3); c != nil || e != api.ErrFull {
			t.Errorf("Open = %v, %d", c, e)
		}
		if p.d.Safe() != safe || p.d.End() != end {
			t.Errorf("Safe is %d, End %d, not %d, %d", p.d.Safe(), p.d.End(), safe, end)
		}
	}
	if p.c.State(16*65536*65536+3) != 1 {
		t.Error("the other coordinator has changed")
	}
}

// fill lays records of no effect on a disk, until it has room for so many bytes. It
// tells of them.
func fill(t *testing.T, d *disk.Disk, room int) []string {
	t.Helper()
	w, _ := wal.Open(d)
	var log []string
	for left := 1048576 - (d.End() - d.Begin()) - room; left > 0; {
		n := min(4096, left-5)
		if rest := left - 5 - n; rest > 0 && rest < 6 {
			n -= 6
		}
		if _, e := w.Append([]byte(strings.Repeat("x", n))); e != api.OK {
			t.Fatalf("Append of %d bytes = %d", n, e)
		}
		log = append(log, strings.Repeat("x", n))
		left -= 5 + n
	}
	return log
}

// P13.1 (C1): Open when there is room for its record, or for all but one byte of it,
// behind records that are durable or not. An error leaves the disk as it is.
func TestOpenFull(t *testing.T) {
	record := 5 + len(ints(0, 1))
	for room := range record + 2 {
		for _, behind := range []string{"", "LLLL", "L\x00\x00\x00\x00\x00"} {
			for _, durable := range []bool{false, true} {
				d := logged(t, ints(0, 0))
				fill(t, d, room)
				if durable {
					d.Sync()
				}
				records := d.End()
				d.Append([]byte(behind))
				safe, end := d.Safe(), d.End()
				c, e := coordinator.Open(d, 3)
				if room >= record {
					safe, end = records+record, records+record
				}
				if (c != nil) != (room >= record) || (e == api.OK) != (room >= record) || e != api.OK && e != api.ErrFull || d.Safe() != safe || d.End() != end {
					t.Errorf("room for %d: Open = %v, %d, Safe is %d, End %d, not %d, %d", room, c, e, d.Safe(), d.End(), safe, end)
				}
			}
		}
	}
}

// P13.1 (C1): Open cuts off what is no record, which may make room, and has records
// outlast a loss of power that were not synced.
func TestOpenCuts(t *testing.T) {
	d := disk.New()
	fill(t, d, 50)
	d.Append([]byte(strings.Repeat("L", 50)))
	if c, e := coordinator.Open(d, 3); c == nil || e != api.OK {
		t.Errorf("Open = %d", e)
	}
	m, p := fresh(t, 3)
	m.follow(t, p, states()["done"]...)
	for _, s := range []string{"", "L", ints(2, 3)} {
		x := p.d.Power(p.d.End() - p.d.Safe())
		x.Append([]byte(s))
		if c, e := coordinator.Open(x, 3); e != api.OK || c.State(3) != 0 || x.Safe() != x.End() {
			t.Errorf("Open = %d, Safe is %d, End %d", e, x.Safe(), x.End())
		}
	}
}

// P13.1 (C3): if there is no room for the record of a decision, nothing has changed:
// who voted last has not voted.
func TestDecisionFull(t *testing.T) {
	record := 5 + len(ints(1, 3, 5))
	for room := range record + 2 {
		for _, last := range []api.LetterKind{api.Yes, api.ReadOnly} {
			nodes := []int{0, 1, 2}
			votes := []step{hear(post(api.Yes, 0, 3, 3)), hear(post(api.ReadOnly, 1, 3, 3)), hear(post(last, 2, 3, 3))}
			m, p := fresh(t, 3)
			m.follow(t, p, begin(), ask(3, nodes...), out(), tick(), tick(), votes[0], votes[1])
			m.log = append(m.log, fill(t, p.d, room)...)
			p.d.Sync()
			m.safe = len(m.log)
			for range 3 {
				e := m.follow(t, p, votes[2]).e
				if want := room < record; (e == api.ErrFull) != want || (e == api.OK) == want {
					t.Fatalf("room for %d: Hear = %d", room, e)
				}
				m.check(t, p)
			}
			m.follow(t, p, out(), tick(), tick())
			if l := m.follow(t, p, tick(), out()).letters; room < record && (len(l) != 1 || !equal(l[0], post(api.Prepare, 3, 2, 3, 0, 1, 2))) {
				t.Fatalf("room for %d: Tick sends %v", room, l)
			}
			if l := m.follow(t, p, hear(post(api.No, 2, 3, 3)), out()).letters; room < record && len(l) != 2 {
				t.Fatalf("room for %d: No sends %v", room, l)
			}
			m.check(t, p)
		}
	}
}

// P13.1 (C3): what needs no record needs no room.
func TestFullWithoutRecords(t *testing.T) {
	m, p := fresh(t, 3)
	m.log = append(m.log, fill(t, p.d, 0)...)
	p.d.Sync()
	m.safe = len(m.log)
	m.follow(t, p,
		begin(), ask(3, 0, 1), hear(post(api.ReadOnly, 0, 3, 3)), hear(post(api.ReadOnly, 1, 3, 3)),
		begin(), ask(19, 0, 1), hear(post(api.Yes, 0, 3, 19)), hear(post(api.No, 1, 3, 19)),
		begin(), ask(35, 0, 1), stop(35), hear(post(api.Ask, 0, 3, 35)), tick(), out(),
	)
	m.check(t, p)
}

// P13.1 (C3): a transaction of which all have been told is forgotten, though there is
// no room to log that. It is told once more when the log is opened again.
func TestDoneFull(t *testing.T) {
	record := 5 + len(ints(2, 3))
	for room := range record + 2 {
		m, p := fresh(t, 3)
		m.follow(t, p, states()["told"]...)
		m.log = append(m.log, fill(t, p.d, room)...)
		p.d.Sync()
		m.safe = len(m.log)
		if got := m.follow(t, p, hear(post(api.Done, 2, 3, 3))); !got.same(outcome{}) || p.c.State(3) != 0 {
			t.Errorf("room for %d: Hear = %v, State = %d", room, got, p.c.State(3))
		}
		m.check(t, p)
	}
}

// P13.2: power lost at each byte of what the last call logged.
func TestPower(t *testing.T) {
	for keep := range 20 {
		for name, x := range states() {
			m, p := fresh(t, 3)
			m.follow(t, p, x...)
			m.follow(t, p, power(keep))
			m.check(t, p)
			state := p.c.State(3)
			switch name {
			case "committed", "opened", "told":
				if state != 2 {
					t.Errorf("%s, keep %d: State = %d", name, keep, state)
				}
			case "done":
				want := 2
				if keep%(6+len(ints(2, 3))) == 5+len(ints(2, 3)) {
					want = 0
				}
				if state != want {
					t.Errorf("%s, keep %d: State = %d, not %d", name, keep, state, want)
				}
			default:
				if state != 0 {
					t.Errorf("%s, keep %d: State = %d", name, keep, state)
				}
			}
			m.follow(t, p, tick(), tick(), tick(), tick(), tick(), out(), begin())
		}
	}
}

// book is what is to be seen of a transaction from outside.
type book struct {
	asked     []int
	votes     map[int]api.LetterKind // the first ones
	told      map[int]bool
	committed bool
}

// books are those of all transactions of a coordinator.
type books map[int]*book

func (l books) of(n int) *book {
	if l[n] == nil {
		l[n] = &book{votes: map[int]api.LetterKind{}, told: map[int]bool{}}
	}
	return l[n]
}

// note has a step in the books, if it was OK.
func (l books) note(s step) {
	switch x := l.of(s.n); s.name {
	case "Ask":
		x.asked = s.nodes
	case "Hear":
		x, from := l.of(s.letter.Tx), s.letter.From
		switch k := s.letter.Kind; {
		case k == api.Done && x.committed:
			x.told[from] = true
		case k >= api.Yes && k <= api.ReadOnly && x.votes[from] == 0 && slices.Contains(x.asked, from):
			x.votes[from] = k
		}
	}
}

// open tells whether one that voted Yes has not answered Done.
func (x *book) open() bool {
	for n, k := range x.votes {
		if k == api.Yes && !x.told[n] {
			return true
		}
	}
	return false
}

// check holds what a coordinator sends and tells against the books: a commit is that
// of all, and is one until all have answered.
func (l books) check(t *testing.T, p *pair, s step) {
	t.Helper()
	for _, x := range p.c.Out() {
		b := l.of(x.Tx)
		if x.Kind == api.Abort && b.committed && b.open() {
			t.Fatalf("%v: Abort of %d, which is committed", s, x.Tx)
		}
		if x.Kind != api.Commit {
			continue
		}
		b.committed = true
		for _, n := range b.asked {
			if k := b.votes[n]; k != api.Yes && k != api.ReadOnly {
				t.Fatalf("%v: Commit of %d, and %d voted %d", s, x.Tx, n, k)
			}
		}
		if len(b.asked) == 0 {
			t.Fatalf("%v: Commit of %d, which was not asked", s, x.Tx)
		}
	}
	for n, b := range l {
		if b.committed && b.open() && p.c.State(n) != 2 {
			t.Fatalf("%v: %d is committed, but State = %d", s, n, p.c.State(n))
		}
		if p.c.State(n) == 2 && !b.committed {
			t.Fatalf("%v: %d is committed without a Commit", s, n)
		}
	}
}

// P13.2, P13.3: by the books, over long lists of steps with many losses of power.
func TestBooks(t *testing.T) {
	r := rand.New(rand.NewPCG(9, 10))
	commits, forgotten := 0, 0
	for i := range 2000 {
		m, p := fresh(t, i%16)
		l := books{}
		for range 300 {
			s := m.anyStep(r, 1+i%4, 10+i%60)
			m.do(s)
			if got := p.do(s); got.e == api.OK && s.name != "Out" {
				l.note(s)
			}
			if s.name != "Out" { // the books see all letters
				l.check(t, p, s)
			}
		}
		for n, b := range l {
			if b.committed {
				commits++
			}
			if b.committed && p.c.State(n) == 0 {
				forgotten++
			}
		}
	}
	if commits < 1000 || forgotten < 100 {
		t.Errorf("only %d commits, and %d of them forgotten", commits, forgotten)
	}
}
