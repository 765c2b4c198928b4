package participant_test

import (
	"fmt"
	"maps"
	"math/rand/v2"
	"slices"
	"testing"

	"frankpledge/api"
	"frankpledge/disk"
	"frankpledge/participant"
	"frankpledge/row"
	"frankpledge/shard"
)

// These are told apart from the program, from the document's words.

// post is a letter of its parts.
func post(kind api.LetterKind, from, to, tx int, nodes ...int) api.Letter {
	return api.Letter{Kind: kind, From: from, To: to, Tx: tx, Nodes: nodes}
}

// equal compares letters field by field.
func equal(a, b api.Letter) bool {
	return a.Kind == b.Kind && a.From == b.From && a.To == b.To && a.Tx == b.Tx && slices.Equal(a.Nodes, b.Nodes)
}

// invalid is what the document says of letters that are not valid (11).
func invalid(l api.Letter) bool {
	for i, n := range l.Nodes {
		if n < 0 || n > 15 || i > 0 && l.Nodes[i-1] >= n {
			return true
		}
	}
	return l.Kind < 1 || l.Kind > 8 || l.From < 0 || l.From > 15 || l.To < 0 || l.To > 15 ||
		l.Tx < 0 || l.Tx > 1<<40 || len(l.Nodes) > 0 && l.Kind != api.Prepare
}

// change is one of a transaction, in the space t.
type change struct {
	key, row string
	drop     bool
}

// tx is a transaction that the shard knows.
type tx struct {
	changes  []change
	prepared bool
	nodes    []int // its participants, as far as they are known
	since    int   // when it was prepared, or last asked
}

// ending is an abort that a loss of power may undo.
type ending struct {
	n int
	tx
}

// size is how many bytes of the disk tell of it.
func (x ending) size() int {
	b, _ := row.Encode([]api.Value{{Kind: api.Int, N: 5}, {Kind: api.Int, N: int64(x.n)}})
	return 5 + len(b)
}

// model is what the document says of a participant, and of its shard and its disk.
type model struct {
	node, ticks int
	rows        map[string]string
	txs         map[int]tx
	past        map[int]string // "committed", "aborted" or "read"
	over        []int
	out         []api.Letter
	endings     []ending // those that are not synced
	full        bool     // the disk has room for nothing
}

// step is a call, to the participant or to its shard, with its arguments.
type step struct {
	name   string
	n      int // a transaction; of Power, how many bytes to keep
	change change
	letter api.Letter
}

func begin(n int) step { return step{name: "Begin", n: n} }
func put(n int, key, row string) step {
	return step{name: "Put", n: n, change: change{key, row, false}}
}
func drop(n int, key string) step { return step{name: "Drop", n: n, change: change{key, "", true}} }
func hear(l api.Letter) step      { return step{name: "Hear", letter: l} }
func tick() step                  { return step{name: "Tick"} }
func out() step                   { return step{name: "Out"} }
func over() step                  { return step{name: "Over"} }
func power(keep int) step         { return step{name: "Power", n: keep} }
func on(name string, n int) step  { return step{name: name, n: n} }

func (s step) String() string { return fmt.Sprintf("%s(%d, %v, %v)", s.name, s.n, s.change, s.letter) }

// outcome is what a call answers.
type outcome struct {
	letters []api.Letter
	over    []int
	e       api.Errno
}

func (o outcome) same(p outcome) bool {
	return o.e == p.e && slices.Equal(o.over, p.over) && slices.EqualFunc(o.letters, p.letters, equal)
}

// pair is a participant with its shard and its disk.
type pair struct {
	node  int
	d     *disk.Disk
	s     *shard.Shard
	p     *participant.Participant
	junk  bool
	clean int // where the disk ends without the junk that fills it
}

// fresh is a participant at a node with a new disk, with its model.
func fresh(t *testing.T, node int) (*model, *pair) {
	t.Helper()
	m := &model{node: node, rows: map[string]string{}, txs: map[int]tx{}, past: map[int]string{}}
	p := &pair{node: node, d: disk.New()}
	if e := p.open(); e != api.OK {
		t.Fatalf("New = %d", e)
	}
	return m, p
}

// made is a participant behind some steps, with its model.
func made(t *testing.T, node int, l ...step) (*model, *pair) {
	t.Helper()
	m, p := fresh(t, node)
	m.follow(t, p, l...)
	return m, p
}

// open opens the shard, and makes a participant for it.
func (p *pair) open() (e api.Errno) {
	p.s, _ = shard.Open(p.d)
	p.p, e = participant.New(p.s, p.node)
	return e
}

// do does a step on a participant.
func (p *pair) do(s step) (o outcome) {
	switch s.name {
	case "Hear":
		o.e = p.p.Hear(s.letter)
	case "Tick":
		o.e = p.p.Tick()
	case "Out":
		o.letters = p.p.Out()
	case "Over":
		o.over = p.p.Over()
	case "New":
		p.p, o.e = participant.New(p.s, p.node)
	case "Power":
		p.free()
		p.d = p.d.Power(s.n)
		o.e = p.open()
	case "Fill":
		if !p.junk {
			p.junk, p.clean = true, p.d.End()
			_, o.e = p.d.Append(make([]byte, 1<<20-(p.d.End()-p.d.Begin())))
		}
	case "Free":
		o.e = p.free()
	default:
		o.e = p.atShard(s)
	}
	return o
}

// free takes the junk from the disk, which makes what is left durable.
func (p *pair) free() api.Errno {
	if !p.junk {
		return api.OK
	}
	p.junk = false
	return p.d.Cut(p.clean)
}

// atShard does a step that calls the shard.
func (p *pair) atShard(s step) api.Errno {
	switch s.name {
	case "Begin":
		return p.s.Begin(s.n)
	case "Put":
		return p.s.Put(s.n, "t", []byte(s.change.key), []byte(s.change.row))
	case "Drop":
		return p.s.Drop(s.n, "t", []byte(s.change.key))
	case "Back":
		return p.s.Back(s.n, 0)
	case "Prepare":
		return p.s.Prepare(s.n)
	case "Commit":
		return p.s.Commit(s.n)
	case "Abort":
		return p.s.Abort(s.n)
	}
	return p.s.Image()
}

// do does a step on the model, and tells what the document says of the answer.
func (m *model) do(s step) (o outcome) {
	switch s.name {
	case "Hear":
		o.e = m.hear(s.letter)
	case "Tick":
		m.tick()
	case "Out":
		o.letters, m.out = m.out, nil
	case "Over":
		o.over, m.over = m.over, nil
	case "New":
		m.renew()
	case "Power":
		m.power(s.n)
	case "Fill":
		m.full = true
	case "Free":
		m.free()
	default:
		o.e = m.atShard(s)
	}
	return o
}

// atShard is what the chapter of the shard says of a step.
func (m *model) atShard(s step) api.Errno {
	x, known := m.txs[s.n]
	switch {
	case s.name == "Image":
		if m.full {
			return api.ErrFull
		}
		m.endings = nil
		return api.OK
	case s.name == "Begin" && known:
		return api.ErrUnique
	case s.name == "Begin":
		m.txs[s.n] = tx{}
		return api.OK
	case !known:
		return api.ErrNoTx
	case s.name == "Commit":
		return m.commit(s.n)
	case s.name == "Abort":
		return m.abort(s.n)
	case x.prepared:
		return api.ErrDoubt
	case s.name == "Prepare":
		return m.prepare(s.n)
	case s.name == "Back":
		x.changes = nil
	case s.name == "Drop" && !m.sees(x, s.change.key):
		return api.ErrNoRow
	default:
		x.changes = append(slices.Clip(x.changes), s.change)
	}
	m.txs[s.n] = x
	return api.OK
}

// sees tells whether a transaction sees a row.
func (m *model) sees(x tx, key string) bool {
	rows := maps.Clone(m.rows)
	x.apply(rows)
	_, seen := rows[key]
	return seen
}

func (x tx) apply(rows map[string]string) {
	for _, c := range x.changes {
		if rows[c.key] = c.row; c.drop {
			delete(rows, c.key)
		}
	}
}

func (m *model) prepare(n int) api.Errno {
	if m.full {
		return api.ErrFull
	}
	m.endings = nil
	m.txs[n] = tx{changes: m.txs[n].changes, prepared: true, since: m.ticks}
	return api.OK
}

func (m *model) commit(n int) api.Errno {
	if m.full {
		return api.ErrFull
	}
	m.endings = nil
	m.txs[n].apply(m.rows)
	delete(m.txs, n)
	return api.OK
}

func (m *model) abort(n int) api.Errno {
	if x := m.txs[n]; x.prepared {
		if m.full {
			return api.ErrFull
		}
		m.endings = append(m.endings, ending{n, x})
	}
	delete(m.txs, n)
	return api.OK
}

// free has room on the disk again; what is there is durable.
func (m *model) free() {
	if m.full {
		m.endings = nil
	}
	m.full = false
}

// power is a loss of power: transactions that were aborted may be in doubt again.
func (m *model) power(keep int) {
	m.free()
	sum := 0
	for _, x := range m.endings {
		sum += x.size()
	}
	if keep < 0 {
		keep = -(keep + 1)
	}
	keep %= sum + 1
	maps.DeleteFunc(m.txs, func(_ int, x tx) bool { return !x.prepared })
	for _, x := range m.endings {
		if keep -= x.size(); keep < 0 {
			m.txs[x.n] = x.tx
		}
	}
	m.endings = nil
	m.renew()
}

// renew is a new participant for the same shard.
func (m *model) renew() {
	m.ticks, m.past, m.over, m.out = 0, map[int]string{}, nil, nil
	for n, x := range m.txs {
		m.txs[n] = tx{changes: x.changes, prepared: x.prepared}
	}
}

// known is what Known tells of a transaction.
func (m *model) known(n int) int {
	x, here := m.txs[n]
	switch {
	case here && x.prepared:
		return 2
	case here:
		return 1
	}
	return map[string]int{"committed": 3, "aborted": 4, "read": 5}[m.past[n]]
}

func (m *model) hear(l api.Letter) api.Errno {
	if invalid(l) || l.To != m.node {
		return api.ErrLetter
	}
	x, here := m.txs[l.Tx]
	switch {
	case l.Kind == api.Prepare && here && !x.prepared:
		m.votes(l, x)
	case l.Kind == api.Prepare && here:
		m.yes(l)
	case l.Kind == api.Prepare && m.past[l.Tx] == "read":
		m.home(api.ReadOnly, l.Tx)
	case l.Kind == api.Prepare && m.past[l.Tx] != "committed":
		m.home(api.No, l.Tx)
	case l.Kind == api.Commit && x.prepared:
		if e := m.commit(l.Tx); e != api.OK {
			return e
		}
		m.ends(l.Tx, "committed")
		m.home(api.Done, l.Tx)
	case l.Kind == api.Commit && !here:
		m.home(api.Done, l.Tx)
	case l.Kind == api.Abort && here:
		if e := m.abort(l.Tx); e != api.OK {
			return e
		}
		m.ends(l.Tx, "aborted")
	case l.Kind == api.Ask && m.past[l.Tx] == "committed":
		m.out = append(m.out, post(api.Commit, m.node, l.From, l.Tx))
	case l.Kind == api.Ask && m.past[l.Tx] == "aborted":
		m.out = append(m.out, post(api.Abort, m.node, l.From, l.Tx))
	}
	return api.OK
}

// votes has an active transaction vote.
func (m *model) votes(l api.Letter, x tx) {
	if len(x.changes) == 0 {
		m.abort(l.Tx)
		m.ends(l.Tx, "read")
		m.home(api.ReadOnly, l.Tx)
		return
	}
	if m.prepare(l.Tx) == api.OK {
		m.yes(l)
		return
	}
	m.abort(l.Tx)
	m.ends(l.Tx, "aborted")
	m.home(api.No, l.Tx)
}

func (m *model) yes(l api.Letter) {
	if x := m.txs[l.Tx]; len(l.Nodes) > 0 {
		x.nodes = slices.Clone(l.Nodes)
		m.txs[l.Tx] = x
	}
	m.home(api.Yes, l.Tx)
}

func (m *model) ends(n int, how string) {
	m.past[n] = how
	m.over = append(m.over, n)
}

// home has a letter to the coordinator of a transaction ready.
func (m *model) home(kind api.LetterKind, n int) {
	m.out = append(m.out, post(kind, m.node, n%16, n))
}

// doubts are the prepared transactions.
func (m *model) doubts() []int {
	var l []int
	for n, x := range m.txs {
		if x.prepared {
			l = append(l, n)
		}
	}
	slices.Sort(l)
	return l
}

func (m *model) tick() {
	m.ticks++
	for _, n := range m.doubts() {
		x := m.txs[n]
		if m.ticks < x.since+5 {
			continue
		}
		x.since = m.ticks
		m.txs[n] = x
		m.home(api.Ask, n)
		for _, to := range x.nodes {
			if to != m.node && to != n%16 {
				m.out = append(m.out, post(api.Ask, m.node, to, n))
			}
		}
	}
}

// follow does steps on a participant and on its model, and holds the answers against
// each other; it tells the last one.
func (m *model) follow(t *testing.T, p *pair, l ...step) (got outcome) {
	t.Helper()
	for i, s := range l {
		want := m.do(s)
		if got = p.do(s); !got.same(want) {
			t.Fatalf("%v: %v = %v, not %v", l[:i], s, got, want)
		}
	}
	return got
}

// check holds all that a participant and its shard tell against the model, but for the
// letters and what is over.
func (m *model) check(t *testing.T, p *pair) {
	t.Helper()
	if got := rowsOf(p.s); !maps.Equal(got, m.rows) {
		t.Fatalf("the rows are %v, not %v", got, m.rows)
	}
	if got := p.s.Doubts(); !slices.Equal(got, m.doubts()) {
		t.Fatalf("Doubts = %v, not %v", got, m.doubts())
	}
	for _, n := range numbers() {
		if got, want := p.p.Known(n), m.known(n); got != want {
			t.Fatalf("Known(%d) = %d, not %d", n, got, want)
		}
		var changes []change
		for _, c := range p.s.Changes(n) {
			changes = append(changes, change{string(c.Key), string(c.Row), c.Drop})
		}
		if !slices.Equal(changes, m.txs[n].changes) {
			t.Fatalf("Changes(%d) = %v, not %v", n, changes, m.txs[n].changes)
		}
	}
}

// rowsOf are the rows of a shard.
func rowsOf(s *shard.Shard) map[string]string {
	rows := map[string]string{}
	for _, x := range s.Rows("t") {
		rows[string(x.Key)] = string(x.Row)
	}
	return rows
}

// numbers are those of which checks ask: the transactions of the tests, and some that
// are none.
func numbers() []int {
	return []int{-1, -14, 0, 1, 2, 3, 17, 18, 19, 34, 35, 50, 1 << 40, 1<<40 + 1, 1<<40 + 18}
}

// histories calls a function with all lists of so many steps at the most.
func histories(all []step, most int, then func([]step)) {
	var grow func(l []step)
	grow = func(l []step) {
		then(l)
		if len(l) == most {
			return
		}
		for _, s := range all {
			grow(append(slices.Clip(l), s))
		}
	}
	grow(nil)
}

// anyNodes are some of the nodes 0 to 4, now and then not participants.
func anyNodes(r *rand.Rand) []int {
	var l []int
	for n := range 5 {
		if r.IntN(2) == 0 {
			l = append(l, n)
		}
	}
	if r.IntN(12) == 0 {
		return append(l, r.IntN(18)-1)
	}
	return l
}

// anyTx is a transaction of some, more often one that the shard knows.
func (m *model) anyTx(r *rand.Rand) int {
	if l := slices.Sorted(maps.Keys(m.txs)); len(l) > 0 && r.IntN(3) > 0 {
		return l[r.IntN(len(l))]
	}
	return []int{0, 1, 3, 18, 19, 34, 50, 1 << 40}[r.IntN(8)]
}

// anyLetter is one to a participant like the model's, most often one of a coordinator.
func (m *model) anyLetter(r *rand.Rand) api.Letter {
	kinds := []api.LetterKind{1, 1, 1, 1, 1, 1, 5, 5, 5, 6, 6, 6, 8, 8, 8, 2, 3, 4, 7}
	l := post(kinds[r.IntN(len(kinds))], r.IntN(16), m.node, m.anyTx(r))
	if l.Kind == api.Prepare {
		l.Nodes = anyNodes(r)
	}
	switch r.IntN(60) {
	case 0:
		l.To = r.IntN(18) - 1
	case 1:
		l.From = r.IntN(18) - 1
	case 2:
		l.Nodes = anyNodes(r)
	case 3:
		l.Kind = api.LetterKind(r.IntN(12) - 1)
	}
	return l
}

// anyStep is a step that often is of use to a participant like the model's. Of so many
// steps, one is a loss of power.
func (m *model) anyStep(r *rand.Rand, losses int) step {
	if r.IntN(losses) == 0 {
		return power(int(r.Uint64()) >> r.IntN(64))
	}
	n, key := m.anyTx(r), string(rune('a'+r.IntN(4)))
	switch r.IntN(50) {
	case 0, 1, 2, 3, 4, 5:
		return begin(n)
	case 6, 7, 8, 9, 10:
		return put(n, key, fmt.Sprint(r.IntN(1000)))
	case 11, 12:
		return drop(n, key)
	case 13, 14, 15, 16, 17, 18, 19:
		return tick()
	case 20, 21, 22, 23, 24:
		return out()
	case 25, 26:
		return over()
	case 27:
		return on([]string{"Back", "Image", "New", "Fill", "Free", "Free", "Abort", "Commit"}[r.IntN(8)], n)
	}
	return hear(m.anyLetter(r))
}
