package coordinator_test

import (
	"fmt"
	"math/rand/v2"
	"slices"
	"testing"

	"frankpledge/api"
	"frankpledge/coordinator"
	"frankpledge/disk"
	"frankpledge/row"
	"frankpledge/wal"
)

// These are told apart from the program, from the document's words.

// post is a letter of its parts.
func post(kind api.LetterKind, from, to, tx int, nodes ...int) api.Letter {
	return api.Letter{Kind: kind, From: from, To: to, Tx: tx, Nodes: nodes}
}

// equal compares letters field by field.
func equal(a, b api.Letter) bool {
	return a.Kind == b.Kind && a.From == b.From && a.To == b.To && a.Tx == b.Tx && slices.Equal(a.Nodes, b.Nodes)
}

// upTo are the first so many numbers.
func upTo(n int) []int {
	var l []int
	for i := range n {
		l = append(l, i)
	}
	return l
}

// numbered is the number of a transaction.
func numbered(incarnation, count, node int) int {
	return 16*(65536*incarnation+count) + node
}

// encoded is a record, or any row as a log may have it.
func encoded(l ...api.Value) string {
	b, e := row.Encode(l)
	if e != api.OK {
		panic("no row")
	}
	return string(b)
}

// ints is a record of Ints.
func ints(l ...int) string {
	var values []api.Value
	for _, n := range l {
		values = append(values, api.Value{Kind: api.Int, N: int64(n)})
	}
	return encoded(values...)
}

// numbers are those of a record of Ints, which all are between 0 and MaxNumber.
func numbers(record string) []int {
	values, _ := row.Decode([]byte(record))
	var l []int
	for _, v := range values {
		if v.Kind != api.Int || v.N < 0 || v.N > 1<<40 {
			return nil
		}
		l = append(l, int(v.N))
	}
	return l
}

// bits are the bits of nodes.
func bits(nodes []int) int {
	sum := 0
	for _, n := range nodes {
		power := 1
		for range n {
			power *= 2
		}
		sum += power
	}
	return sum
}

// unbits are the nodes whose bits have a sum.
func unbits(sum int) []int {
	var l []int
	for n := 0; sum > 0; n++ {
		if sum%2 == 1 {
			l = append(l, n)
		}
		sum /= 2
	}
	return l
}

// frames is how many bytes records have on the disk.
func frames(log []string) int {
	n := 0
	for _, s := range log {
		n += 5 + len(s)
	}
	return n
}

// tx is a transaction that the model knows.
type tx struct {
	state string // "begun", "voting" or "committed"
	nodes []int
	votes map[int]api.LetterKind
	told  []int
	since int
}

func (x *tx) voted(node int) bool { return x.votes[node] != 0 }

// yes are the participants that voted Yes.
func (x *tx) yes() []int {
	return slices.DeleteFunc(slices.Clone(x.nodes), func(n int) bool { return x.votes[n] != api.Yes })
}

// silent are those from whom nothing came yet.
func (x *tx) silent() []int {
	return slices.DeleteFunc(slices.Clone(x.nodes), func(n int) bool { return x.voted(n) || slices.Contains(x.told, n) })
}

// model is what the document says of a coordinator and of its log.
type model struct {
	node, incarnation, count, ticks int
	txs                             map[int]*tx
	out                             []api.Letter
	log                             []string
	safe                            int // so many records are durable
}

// step is a call that may change a coordinator, with its arguments.
type step struct {
	name   string
	n      int        // a transaction; of Power, how many bytes to keep
	nodes  []int      // of Ask
	letter api.Letter // of Hear
}

func begin() step                  { return step{name: "Begin"} }
func ask(n int, nodes ...int) step { return step{name: "Ask", n: n, nodes: nodes} }
func hear(l api.Letter) step       { return step{name: "Hear", letter: l} }
func tick() step                   { return step{name: "Tick"} }
func stop(n int) step              { return step{name: "Stop", n: n} }
func out() step                    { return step{name: "Out"} }
func reopen() step                 { return step{name: "Open"} }
func power(keep int) step          { return step{name: "Power", n: keep} }

func (s step) String() string {
	return fmt.Sprintf("%s(%d, %v, %v)", s.name, s.n, s.nodes, s.letter)
}

// outcome is what a call answers.
type outcome struct {
	n       int
	letters []api.Letter
	e       api.Errno
}

func (o outcome) same(p outcome) bool {
	return o.n == p.n && o.e == p.e && slices.EqualFunc(o.letters, p.letters, equal)
}

// pair is a coordinator with its disk.
type pair struct {
	node int
	d    *disk.Disk
	c    *coordinator.Coordinator
}

// fresh is a coordinator on a new disk, with its model.
func fresh(t *testing.T, node int) (*model, *pair) {
	t.Helper()
	return laid(t, node)
}

// laid is a coordinator on a disk whose log has some records, with its model.
func laid(t *testing.T, node int, log ...string) (*model, *pair) {
	t.Helper()
	m := &model{node: node, log: slices.Clone(log)}
	p := &pair{node: node, d: logged(t, log...)}
	m.follow(t, p, reopen())
	return m, p
}

// logged is a disk whose log has some records, all of them durable.
func logged(t *testing.T, log ...string) *disk.Disk {
	t.Helper()
	d := disk.New()
	w, _ := wal.Open(d)
	for _, s := range log {
		if _, e := w.Append([]byte(s)); e != api.OK {
			t.Fatalf("Append = %d", e)
		}
	}
	w.Sync()
	return d
}

// do does a step on a coordinator.
func (p *pair) do(s step) (o outcome) {
	switch s.name {
	case "Begin":
		o.n, o.e = p.c.Begin()
	case "Ask":
		o.e = p.c.Ask(s.n, s.nodes)
	case "Hear":
		o.e = p.c.Hear(s.letter)
	case "Tick":
		o.e = p.c.Tick()
	case "Stop":
		o.e = p.c.Stop(s.n)
	case "Out":
		o.letters = p.c.Out()
	case "Open":
		p.c, o.e = coordinator.Open(p.d, p.node)
	case "Power":
		p.d = p.d.Power(s.n)
		p.c, o.e = coordinator.Open(p.d, p.node)
	}
	return o
}

// do does a step on the model, and tells what the document says of the answer.
func (m *model) do(s step) outcome {
	switch s.name {
	case "Begin":
		return m.begin()
	case "Ask":
		return outcome{e: m.ask(s.n, s.nodes)}
	case "Hear":
		return outcome{e: m.hear(s.letter)}
	case "Tick":
		m.tick()
	case "Stop":
		return outcome{e: m.stop(s.n)}
	case "Out":
		l := m.out
		m.out = nil
		return outcome{letters: l}
	case "Open":
		return outcome{e: m.open()}
	case "Power":
		m.log = slices.Clip(m.log[:m.safe+m.kept(s.n)])
		return outcome{e: m.open()}
	}
	return outcome{}
}

// kept is how many of the records that aren't durable a loss of power leaves, if it
// leaves some of their bytes.
func (m *model) kept(keep int) int {
	others := m.log[m.safe:]
	if keep < 0 {
		keep = -(keep + 1)
	}
	keep %= frames(others) + 1
	for i := range others {
		if frames(others[:i+1]) > keep {
			return i
		}
	}
	return len(others)
}

func (m *model) open() api.Errno {
	m.incarnation, m.count, m.ticks, m.out, m.txs = 0, 0, 0, nil, map[int]*tx{}
	for _, s := range m.log {
		switch l := numbers(s); {
		case len(l) == 2 && l[0] == 0:
			m.incarnation++
		case len(l) == 3 && l[0] == 1 && l[2] >= 1 && l[2] <= 65535:
			m.txs[l[1]] = &tx{state: "committed", nodes: unbits(l[2])}
		case len(l) == 2 && l[0] == 2:
			delete(m.txs, l[1])
		}
	}
	if m.incarnation > 65536 {
		return api.ErrFull
	}
	return m.write(true, 0, m.incarnation)
}

// write logs a record, if there is room for it.
func (m *model) write(sync bool, l ...int) api.Errno {
	longer := append(slices.Clip(m.log), ints(l...))
	if frames(longer) > 1048576 {
		return api.ErrFull
	}
	m.log = longer
	if sync {
		m.safe = len(m.log)
	}
	return api.OK
}

func (m *model) begin() outcome {
	if m.count == 65536 {
		return outcome{e: api.ErrFull}
	}
	n := numbered(m.incarnation, m.count, m.node)
	m.count++
	m.txs[n] = &tx{state: "begun"}
	return outcome{n: n}
}

// state is that of a transaction, "" for one that is forgotten or never was.
func (m *model) state(n int) string {
	if m.txs[n] == nil {
		return ""
	}
	return m.txs[n].state
}

func (m *model) ask(n int, nodes []int) api.Errno {
	if m.state(n) != "begun" {
		return api.ErrState
	}
	for i, x := range nodes {
		if x < 0 || x > 15 || i > 0 && x <= nodes[i-1] {
			return api.ErrArg
		}
	}
	if len(nodes) == 0 {
		return api.ErrArg
	}
	m.txs[n] = &tx{state: "voting", nodes: slices.Clone(nodes), votes: map[int]api.LetterKind{}, since: m.ticks}
	m.send(api.Prepare, n, nodes, nodes...)
	return api.OK
}

// send has letters to some nodes ready, which name some nodes.
func (m *model) send(kind api.LetterKind, n int, to []int, named ...int) {
	for _, x := range to {
		m.out = append(m.out, post(kind, m.node, x, n, slices.Clone(named)...))
	}
}

func (m *model) stop(n int) api.Errno {
	if s := m.state(n); s != "begun" && s != "voting" {
		return api.ErrState
	}
	m.send(api.Abort, n, m.txs[n].nodes)
	delete(m.txs, n)
	return api.OK
}

// invalid is what the document says of letters that are not valid (11).
func invalid(l api.Letter) bool {
	for i, n := range l.Nodes {
		if n < 0 || n > 15 || i > 0 && l.Nodes[i-1] >= n {
			return true
		}
	}
	return l.Kind < 1 || l.Kind > 8 || l.From < 0 || l.From > 15 || l.To < 0 || l.To > 15 ||
		l.Tx < 0 || l.Tx > 1<<40 || len(l.Nodes) > 0 && l.Kind != api.Prepare
}

func (m *model) hear(l api.Letter) api.Errno {
	if invalid(l) || l.To != m.node || l.Tx%16 != m.node {
		return api.ErrLetter
	}
	s := m.state(l.Tx)
	question := l.Kind == api.Ask || l.Kind == api.Yes
	switch {
	case question && s == "committed":
		m.send(api.Commit, l.Tx, []int{l.From})
	case question && s == "":
		m.send(api.Abort, l.Tx, []int{l.From})
	case s == "voting" && slices.Contains(m.txs[l.Tx].silent(), l.From):
		return m.vote(l)
	case s == "committed" && l.Kind == api.Done:
		m.done(l)
	}
	return api.OK
}

// vote has a participant vote that has not voted yet.
func (m *model) vote(l api.Letter) api.Errno {
	x := m.txs[l.Tx]
	if l.Kind == api.No {
		delete(m.txs, l.Tx)
		m.send(api.Abort, l.Tx, slices.DeleteFunc(slices.Clone(x.nodes), func(n int) bool { return n == l.From }))
	}
	if l.Kind != api.Yes && l.Kind != api.ReadOnly {
		return api.OK
	}
	x.votes[l.From] = l.Kind
	if len(x.silent()) > 0 {
		return api.OK
	}
	yes := x.yes()
	if len(yes) == 0 {
		delete(m.txs, l.Tx)
		return api.OK
	}
	if e := m.write(true, 1, l.Tx, bits(yes)); e != api.OK {
		delete(x.votes, l.From)
		return e
	}
	m.txs[l.Tx] = &tx{state: "committed", nodes: yes, since: m.ticks}
	m.send(api.Commit, l.Tx, yes)
	return api.OK
}

func (m *model) done(l api.Letter) {
	x := m.txs[l.Tx]
	x.told = append(x.told, l.From)
	if len(x.silent()) == 0 {
		m.write(false, 2, l.Tx)
		delete(m.txs, l.Tx)
	}
}

// pending are the transactions that the model knows.
func (m *model) pending() []int {
	var l []int
	for n := range m.txs {
		l = append(l, n)
	}
	slices.Sort(l)
	return l
}

func (m *model) tick() {
	m.ticks++
	for _, n := range m.pending() {
		x := m.txs[n]
		if x.state == "begun" || m.ticks < x.since+5 {
			continue
		}
		x.since = m.ticks
		if x.state == "voting" {
			m.send(api.Prepare, n, x.silent(), x.nodes...)
		} else {
			m.send(api.Commit, n, x.silent())
		}
	}
}

// follow does steps on a coordinator and on its model, and holds the answers against
// each other; it tells the last one.
func (m *model) follow(t *testing.T, p *pair, l ...step) (got outcome) {
	t.Helper()
	for i, s := range l {
		want := m.do(s)
		if got = p.do(s); !got.same(want) {
			t.Fatalf("%v: %v = %v, not %v", l[:i], s, got, want)
		}
	}
	return got
}

// checkLog holds the log of a coordinator against the model. It is read from a copy
// of the disk, as opening a log makes it durable.
func (m *model) checkLog(t *testing.T, d *disk.Disk) {
	t.Helper()
	if got := recordsOf(d); !slices.Equal(got, m.log) {
		t.Fatalf("the log is %q, not %q", got, m.log)
	}
	safe, used := frames(m.log[:m.safe]), frames(m.log)
	if d.Safe()-d.Begin() != safe || d.End()-d.Begin() != used {
		t.Fatalf("%d bytes are on the disk, %d of them durable, not %d, %d", d.End()-d.Begin(), d.Safe()-d.Begin(), used, safe)
	}
}

// recordsOf are the records of the log on a disk.
func recordsOf(d *disk.Disk) []string {
	w, _ := wal.Open(d.Power(d.End() - d.Safe()))
	var l []string
	for _, n := range w.Numbers() {
		b, _ := w.Read(n)
		l = append(l, string(b))
	}
	return l
}

// check holds all that a coordinator tells against the model, but for its letters.
func (m *model) check(t *testing.T, p *pair) {
	t.Helper()
	m.checkLog(t, p.d)
	pending := m.pending()
	if got := p.c.Pending(); !slices.Equal(got, pending) {
		t.Fatalf("Pending = %v, not %v", got, pending)
	}
	states := map[string]int{"begun": 1, "voting": 1, "committed": 2}
	next := numbered(m.incarnation, m.count, m.node)
	for _, n := range append(pending, -1, -16, -13, 0, m.node, m.node+16, m.node+32, next, next-16, next+1, 1<<40, 1<<40+1) {
		if got, want := p.c.State(n), states[m.state(n)]; got != want {
			t.Fatalf("State(%d) = %d, not %d", n, got, want)
		}
	}
}

// histories calls a function with all lists of so many steps at the most.
func histories(all []step, most int, then func([]step)) {
	var grow func(l []step)
	grow = func(l []step) {
		then(l)
		if len(l) == most {
			return
		}
		for _, s := range all {
			grow(append(slices.Clip(l), s))
		}
	}
	grow(nil)
}

// anyNodes are some nodes of the first so many, now and then not participants.
func anyNodes(r *rand.Rand, nodes int) []int {
	var l []int
	for n := range nodes {
		if r.IntN(2) == 0 {
			l = append(l, n)
		}
	}
	if r.IntN(12) == 0 {
		return append(l, r.IntN(18)-1)
	}
	return l
}

// anyTx is a transaction of which a coordinator like the model may have heard.
func (m *model) anyTx(r *rand.Rand) int {
	if l := m.pending(); len(l) > 0 && r.IntN(5) > 0 {
		return l[r.IntN(len(l))]
	}
	return numbered(r.IntN(m.incarnation+2), r.IntN(m.count+2), m.node) + r.IntN(30)/29
}

// anyLetter is one from the first so many nodes. Most of them vote Yes.
func (m *model) anyLetter(r *rand.Rand, nodes int) api.Letter {
	kinds := []api.LetterKind{1, 2, 2, 2, 2, 2, 2, 2, 2, 3, 4, 4, 5, 6, 7, 7, 7, 7, 7, 8, 8}
	l := post(kinds[r.IntN(len(kinds))], r.IntN(nodes), m.node, m.anyTx(r))
	switch r.IntN(60) {
	case 0:
		l.To = r.IntN(18) - 1
	case 1:
		l.From = r.IntN(18) - 1
	case 2:
		l.Nodes = anyNodes(r, nodes)
	case 3:
		l.Kind = api.LetterKind(r.IntN(12) - 1)
	}
	return l
}

// anyStep is a step that often is of use to a coordinator like the model's. Of so
// many steps, one is a loss of power.
func (m *model) anyStep(r *rand.Rand, nodes, losses int) step {
	if r.IntN(losses) == 0 {
		return power(int(r.Uint64()) >> r.IntN(64))
	}
	switch r.IntN(40) {
	case 0, 1, 2:
		return begin()
	case 3, 4, 5, 6:
		return ask(m.anyTx(r), anyNodes(r, nodes)...)
	case 7, 8, 9, 10:
		return tick()
	case 11:
		return stop(m.anyTx(r))
	case 12, 13, 14, 15:
		return out()
	}
	return hear(m.anyLetter(r, nodes))
}
