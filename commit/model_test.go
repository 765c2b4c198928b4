package commit_test

import (
	"fmt"
	"maps"
	"math/rand/v2"
	"slices"
	"testing"

	"frankpledge/api"
	"frankpledge/commit"
)

// These are told apart from the program, from the document's words. What a world's
// logs have is told by the sizes of their frames, as disks may be full.

// post is a letter of its parts.
func post(kind api.LetterKind, from, to, tx int, nodes ...int) api.Letter {
	return api.Letter{Kind: kind, From: from, To: to, Tx: tx, Nodes: nodes}
}

// equal compares letters field by field.
func equal(a, b api.Letter) bool {
	return a.Kind == b.Kind && a.From == b.From && a.To == b.To && a.Tx == b.Tx && slices.Equal(a.Nodes, b.Nodes)
}

// varint is how many bytes a number that is not negative has (5).
func varint(n int) int {
	size := 1
	for u := 2 * n; u > 127; u /= 128 {
		size++
	}
	return size
}

// blob is how many bytes a value of so many bytes has in a row (5).
func blob(n int) int { return 1 + varint(n) + n }

// frame is how many bytes the frame of a record has (7) that begins with some Ints.
func frame(rest int, ints ...int) int {
	size := 5 + 1 + rest
	for _, n := range ints {
		size += 1 + varint(n)
	}
	return size
}

// entry is a record of a log.
type entry struct {
	kind, tx int
	nodes    []int // those that are to be told
	key, row string
	size     int
}

// opened, decided and forgotten are a coordinator's (13).
func opened(incarnation int) entry { return entry{kind: 0, size: frame(0, 0, incarnation)} }
func forgotten(tx int) entry       { return entry{kind: 2, tx: tx, size: frame(0, 2, tx)} }
func decided(tx int, nodes []int) entry {
	bits := 0
	for _, n := range nodes {
		bits |= 1 << n
	}
	return entry{kind: 1, tx: tx, nodes: nodes, size: frame(0, 1, tx, bits)}
}

// plain is a shard's (10) that names its transaction alone, and laid is a row that is put.
func plain(kind, tx int) entry { return entry{kind: kind, tx: tx, size: frame(0, kind, tx)} }
func laid(tx int, key, row string) entry {
	return entry{kind: 1, tx: tx, key: key, row: row, size: laidSize(tx, len(key), len(row))}
}

// laidSize is the size of a row that is put, of so many bytes as its key and itself have.
func laidSize(tx, key, row int) int {
	rest := blob(1) + blob(key)
	for ; row > 0; row -= 200 {
		rest += blob(min(row, 200))
	}
	return frame(rest, 1, tx)
}

// journal is a log: of its entries, so many are durable.
type journal struct {
	entries []entry
	safe    int
	used    int // bytes of the disk
}

// write writes entries if there is room for all.
func (j *journal) write(sync bool, l ...entry) api.Errno {
	sum := sizes(l)
	if j.used+sum > 1<<20 {
		return api.ErrFull
	}
	j.used += sum
	j.entries = append(j.entries, l...)
	if sync {
		j.safe = len(j.entries)
	}
	return api.OK
}

func sizes(l []entry) int {
	sum := 0
	for _, x := range l {
		sum += x.size
	}
	return sum
}

// power is what a loss of power leaves of a journal.
func (j journal) power(keep int) journal {
	others := j.entries[j.safe:]
	if keep < 0 {
		keep = -(keep + 1)
	}
	keep %= sizes(others) + 1
	whole := 0
	for whole < len(others) && sizes(others[:whole+1]) <= keep {
		whole++
	}
	left := slices.Clone(j.entries[:j.safe+whole])
	return journal{entries: left, safe: len(left), used: sizes(left)}
}

// deal is a transaction at its coordinator: "begun", "voting" or "committed".
type deal struct {
	state string
	nodes []int
	votes map[int]api.LetterKind
	open  []int // those that are to vote, or to be told
	since int
}

// work is a transaction at a shard.
type work struct {
	puts     []entry
	prepared bool
	nodes    []int // the participants, as far as they are known
	since    int
}

// site is a node.
type site struct {
	number             int
	decisions          journal
	incarnation, count int
	deals              map[int]*deal
	changes            journal
	rows               map[string]string
	works              map[int]*work
	past               map[int]int // how transactions ended, by the numbers of Known
	ticks              [2]int      // since the coordinator, and since the participant is there
}

// model is what the document says of a world.
type model struct {
	sites   []*site
	letters map[int]api.Letter
	next    int
}

// step is a call that may change a world, with its arguments.
type step struct {
	name     string
	n        int // a transaction or, where there is none, a node or a letter
	node     int // of Put
	nodes    []int
	key, row string
	keep     [2]int
}

func start(node int) step            { return step{name: "Start", n: node} }
func put(n, node int, k string) step { return step{name: "Put", n: n, node: node, key: k, row: "row"} }
func ask(n int, nodes ...int) step   { return step{name: "Ask", n: n, nodes: nodes} }
func stop(n int) step                { return step{name: "Stop", n: n} }
func deliver(number int) step        { return step{name: "Deliver", n: number} }
func twice(number int) step          { return step{name: "Twice", n: number} }
func lose(number int) step           { return step{name: "Lose", n: number} }
func tick(node int) step             { return step{name: "Tick", n: node} }
func power(node, a, b int) step      { return step{name: "Power", n: node, keep: [2]int{a, b}} }

func (s step) String() string {
	return fmt.Sprintf("%s(%d, %d, %v, %q, %d bytes, %v)", s.name, s.n, s.node, s.nodes, s.key, len(s.row), s.keep)
}

// outcome is what a call answers.
type outcome struct {
	n int
	e api.Errno
}

// do does a step on a world.
func do(w *commit.World, s step) (o outcome) {
	switch s.name {
	case "Start":
		o.n, o.e = w.Start(s.n)
	case "Put":
		o.e = w.Put(s.n, s.node, []byte(s.key), []byte(s.row))
	case "Ask":
		o.e = w.Ask(s.n, s.nodes)
	case "Stop":
		o.e = w.Stop(s.n)
	case "Deliver":
		o.e = w.Deliver(s.n)
	case "Twice":
		o.e = w.Twice(s.n)
	case "Lose":
		o.e = w.Lose(s.n)
	case "Tick":
		o.e = w.Tick(s.n)
	case "Power":
		o.e = w.Power(s.n, s.keep)
	}
	return o
}

// do does a step on the model, and tells what the document says of the answer.
func (m *model) do(s step) (o outcome) {
	switch s.name {
	case "Start":
		o.n, o.e = m.start(s.n)
	case "Put":
		o.e = m.put(s)
	case "Ask":
		o.e = m.ask(s.n, s.nodes)
	case "Stop":
		o.e = m.stop(s.n)
	case "Deliver":
		o.e = m.deliver(s.n)
	case "Twice":
		o.e = m.twice(s.n)
	case "Lose":
		_, o.e = m.take(s.n)
	case "Tick":
		o.e = m.tick(s.n)
	case "Power":
		o.e = m.power(s.n, s.keep)
	}
	return o
}

// newModel is what the document says of a new world.
func newModel(nodes int) *model {
	m := &model{letters: map[int]api.Letter{}}
	for n := range nodes {
		x := &site{number: n}
		x.open()
		m.sites = append(m.sites, x)
	}
	return m
}

// site is a node, nil if there is none.
func (m *model) site(node int) *site {
	if node < 0 || node >= len(m.sites) {
		return nil
	}
	return m.sites[node]
}

// home is the node of a transaction's coordinator.
func (m *model) home(tx int) *site {
	if tx < 0 {
		return nil
	}
	return m.site(tx - tx/16*16)
}

func (m *model) start(node int) (int, api.Errno) {
	x := m.site(node)
	switch {
	case x == nil:
		return 0, api.ErrNode
	case x.count == 65536:
		return 0, api.ErrFull
	}
	tx := 16*(65536*x.incarnation+x.count) + node
	x.count++
	x.deals[tx] = &deal{state: "begun"}
	return tx, api.OK
}

func (m *model) put(s step) api.Errno {
	x := m.site(s.node)
	if x == nil {
		return api.ErrNode
	}
	w := x.works[s.n]
	switch {
	case w != nil && w.prepared:
		return api.ErrDoubt
	case w == nil && (s.n < 0 || s.n > 1<<40) || len(s.key) > 200 || len(s.row) > 2000:
		return api.ErrArg
	case w == nil:
		w = &work{}
		x.works[s.n] = w
	}
	w.puts = append(w.puts, laid(s.n, s.key, s.row))
	return api.OK
}

func (m *model) ask(tx int, nodes []int) api.Errno {
	x := m.home(tx)
	if x == nil || slices.ContainsFunc(nodes, func(n int) bool { return m.site(n) == nil }) {
		return api.ErrNode
	}
	d := x.deals[tx]
	if d == nil || d.state != "begun" {
		return api.ErrState
	}
	for i := range nodes {
		if i > 0 && nodes[i-1] >= nodes[i] {
			return api.ErrArg
		}
	}
	if len(nodes) == 0 {
		return api.ErrArg
	}
	nodes = slices.Clone(nodes)
	x.deals[tx] = &deal{"voting", nodes, map[int]api.LetterKind{}, nodes, x.ticks[0]}
	m.tell(api.Prepare, x, tx, nodes, nodes...)
	return api.OK
}

func (m *model) stop(tx int) api.Errno {
	x := m.home(tx)
	if x == nil {
		return api.ErrNode
	}
	d := x.deals[tx]
	if d == nil || d.state == "committed" {
		return api.ErrState
	}
	delete(x.deals, tx)
	m.tell(api.Abort, x, tx, d.nodes)
	return api.OK
}

// tell sends letters of a node to some nodes, which name some nodes.
func (m *model) tell(kind api.LetterKind, x *site, tx int, to []int, named ...int) {
	for _, n := range to {
		m.send(post(kind, x.number, n, tx, slices.Clone(named)...))
	}
}

func (m *model) send(l api.Letter) bool {
	if len(m.letters) == 1024 {
		return false
	}
	m.letters[m.next] = l
	m.next++
	return true
}

func (m *model) take(number int) (api.Letter, api.Errno) {
	l, ok := m.letters[number]
	if !ok {
		return l, api.ErrNoLetter
	}
	delete(m.letters, number)
	return l, api.OK
}

func (m *model) twice(number int) api.Errno {
	l, ok := m.letters[number]
	if !ok {
		return api.ErrNoLetter
	}
	if !m.send(l) {
		return api.ErrFull
	}
	return api.OK
}

func (m *model) deliver(number int) api.Errno {
	l, e := m.take(number)
	if e != api.OK {
		return e
	}
	x := m.sites[l.To]
	atHome := m.home(l.Tx) == x
	switch {
	case l.Kind == api.Prepare:
		return m.prepare(x, l)
	case l.Kind == api.Commit || l.Kind == api.Abort:
		return m.decision(x, l)
	case l.Kind == api.Ask && !atHome:
		switch x.past[l.Tx] {
		case 3:
			m.tell(api.Commit, x, l.Tx, []int{l.From})
		case 4:
			m.tell(api.Abort, x, l.Tx, []int{l.From})
		}
		return api.OK
	}
	return m.hear(x, l)
}

// hear is what a coordinator does with a letter.
func (m *model) hear(x *site, l api.Letter) api.Errno {
	d := x.deals[l.Tx]
	question := l.Kind == api.Ask || l.Kind == api.Yes
	switch {
	case question && d == nil:
		m.tell(api.Abort, x, l.Tx, []int{l.From})
	case question && d.state == "committed":
		m.tell(api.Commit, x, l.Tx, []int{l.From})
	case d == nil || !slices.Contains(d.open, l.From):
	case l.Kind == api.Done && d.state == "committed":
		if d.open = others(d.open, l.From); len(d.open) == 0 {
			x.decisions.write(false, forgotten(l.Tx))
			delete(x.deals, l.Tx)
		}
	case d.state == "voting" && l.Kind == api.No:
		delete(x.deals, l.Tx)
		m.tell(api.Abort, x, l.Tx, others(d.nodes, l.From))
	case d.state == "voting" && (l.Kind == api.Yes || l.Kind == api.ReadOnly):
		return m.vote(x, l, d)
	}
	return api.OK
}

// vote has a participant vote that it has prepared, or only read.
func (m *model) vote(x *site, l api.Letter, d *deal) api.Errno {
	if len(d.open) > 1 {
		d.open = others(d.open, l.From)
		d.votes[l.From] = l.Kind
		return api.OK
	}
	var yes []int
	for _, n := range d.nodes {
		if d.votes[n] == api.Yes || n == l.From && l.Kind == api.Yes {
			yes = append(yes, n)
		}
	}
	if len(yes) == 0 {
		delete(x.deals, l.Tx)
		return api.OK
	}
	if e := x.decisions.write(true, decided(l.Tx, yes)); e != api.OK {
		return e
	}
	x.deals[l.Tx] = &deal{state: "committed", open: yes, since: x.ticks[0]}
	m.tell(api.Commit, x, l.Tx, yes)
	return api.OK
}

// others are some nodes without one of them.
func others(nodes []int, node int) []int {
	return slices.DeleteFunc(slices.Clone(nodes), func(n int) bool { return n == node })
}

// prepare is what a participant does with a Prepare. Nothing here begins without a row.
func (m *model) prepare(x *site, l api.Letter) api.Errno {
	w := x.works[l.Tx]
	if w != nil && !w.prepared {
		logged := append(append([]entry{plain(0, l.Tx)}, w.puts...), plain(3, l.Tx))
		if x.changes.write(true, logged...) != api.OK {
			delete(x.works, l.Tx)
			x.past[l.Tx] = 4
			w = nil
		} else {
			w.prepared, w.since = true, x.ticks[1]
		}
	}
	home := []int{l.Tx % 16}
	switch {
	case w != nil:
		w.nodes = l.Nodes
		m.tell(api.Yes, x, l.Tx, home)
	case x.past[l.Tx] != 3:
		m.tell(api.No, x, l.Tx, home)
	}
	return api.OK
}

// decision is what a participant does with a Commit or an Abort.
func (m *model) decision(x *site, l api.Letter) api.Errno {
	w := x.works[l.Tx]
	commits := l.Kind == api.Commit
	if commits && w != nil && !w.prepared {
		return api.OK
	}
	if w != nil {
		how := map[bool]int{true: 3, false: 4}[commits]
		if w.prepared {
			if e := x.changes.write(commits, plain(how+1, l.Tx)); e != api.OK {
				return e
			}
		}
		if commits {
			x.lay(w)
		}
		delete(x.works, l.Tx)
		x.past[l.Tx] = how
	}
	if commits {
		m.tell(api.Done, x, l.Tx, []int{l.Tx % 16})
	}
	return api.OK
}

// lay puts the rows of a transaction.
func (x *site) lay(w *work) {
	for _, p := range w.puts {
		x.rows[p.key] = p.row
	}
}

func (m *model) tick(node int) api.Errno {
	x := m.site(node)
	if x == nil {
		return api.ErrNode
	}
	x.ticks[0]++
	x.ticks[1]++
	for _, tx := range slices.Sorted(maps.Keys(x.deals)) {
		d := x.deals[tx]
		if d.state == "begun" || x.ticks[0] < d.since+5 {
			continue
		}
		if d.since = x.ticks[0]; d.state == "voting" {
			m.tell(api.Prepare, x, tx, d.open, d.nodes...)
		} else {
			m.tell(api.Commit, x, tx, d.open)
		}
	}
	for _, tx := range slices.Sorted(maps.Keys(x.works)) {
		w := x.works[tx]
		if !w.prepared || x.ticks[1] < w.since+5 {
			continue
		}
		w.since = x.ticks[1]
		m.tell(api.Ask, x, tx, append([]int{tx % 16}, others(others(w.nodes, tx%16), node)...))
	}
	return api.OK
}

func (m *model) power(node int, keep [2]int) api.Errno {
	x := m.site(node)
	if x == nil {
		return api.ErrNode
	}
	left := &site{number: node, decisions: x.decisions.power(keep[0]), changes: x.changes.power(keep[1])}
	if e := left.open(); e != api.OK {
		return e
	}
	m.sites[node] = left
	return api.OK
}

// open is what a node has of what is in its logs.
func (x *site) open() api.Errno {
	x.deals, x.works, x.rows, x.past = map[int]*deal{}, map[int]*work{}, map[string]string{}, map[int]int{}
	for _, r := range x.decisions.entries {
		switch r.kind {
		case 0:
			x.incarnation++
		case 1:
			x.deals[r.tx] = &deal{state: "committed", open: r.nodes}
		case 2:
			delete(x.deals, r.tx)
		}
	}
	for _, r := range x.changes.entries {
		switch r.kind {
		case 0:
			x.works[r.tx] = &work{}
		case 1:
			x.works[r.tx].puts = append(x.works[r.tx].puts, r)
		case 3:
			x.works[r.tx].prepared = true
		case 4:
			x.lay(x.works[r.tx])
			delete(x.works, r.tx)
		case 5:
			delete(x.works, r.tx)
		}
	}
	if x.incarnation > 65536 {
		return api.ErrFull
	}
	return x.decisions.write(true, opened(x.incarnation))
}

// decided is what Decided tells of a transaction.
func (m *model) decided(tx int) int {
	x := m.home(tx)
	switch {
	case x == nil || x.deals[tx] == nil:
		return 0
	case x.deals[tx].state == "committed":
		return 2
	}
	return 1
}

// known is what Known tells of a transaction.
func (m *model) known(tx, node int) int {
	x := m.site(node)
	switch {
	case x == nil:
		return 0
	case x.works[tx] == nil:
		return x.past[tx]
	case x.works[tx].prepared:
		return 2
	}
	return 1
}

// numbers are those of the letters in transit.
func (m *model) numbers() []int { return slices.Sorted(maps.Keys(m.letters)) }

// fresh is a new world, with its model, behind some steps.
func fresh(t *testing.T, nodes int, l ...step) (*model, *commit.World) {
	t.Helper()
	w, e := commit.New(nodes)
	if e != api.OK {
		t.Fatalf("New(%d) = %d", nodes, e)
	}
	m := newModel(nodes)
	m.follow(t, w, l...)
	return m, w
}

// follow does steps on a world and on its model, and holds the answers against each
// other.
func (m *model) follow(t *testing.T, w *commit.World, l ...step) {
	t.Helper()
	for i, s := range l {
		want := m.do(s)
		if got := do(w, s); got != want {
			t.Fatalf("%v: %v = %v, not %v", l[:i], s, got, want)
		}
	}
}

// sends are the letters that a step on the model sends.
func (m *model) sends(s step) []api.Letter {
	var l []api.Letter
	first := m.next
	for m.do(s); first < m.next; first++ {
		l = append(l, m.letters[first])
	}
	return l
}

// check holds all that a world tells against the model.
func (m *model) check(t *testing.T, w *commit.World) {
	t.Helper()
	if got := w.Letters(); !slices.Equal(got, m.numbers()) {
		t.Fatalf("Letters = %v, not %v", got, m.numbers())
	}
	for number, want := range m.letters {
		if got, e := w.Look(number); e != api.OK || !equal(got, want) {
			t.Fatalf("Look(%d) = %v, %d, not %v", number, got, e, want)
		}
	}
	all := map[int]bool{-1: true, -16: true, 0: true, 7: true, 15: true, 16: true, 1 << 40: true, 1<<40 + 1: true}
	for _, x := range m.sites {
		for tx := range x.deals {
			all[tx] = true
		}
		for tx := range x.works {
			all[tx] = true
		}
		for tx := range x.past {
			all[tx] = true
		}
	}
	for tx := range all {
		if got, want := w.Decided(tx), m.decided(tx); got != want {
			t.Fatalf("Decided(%d) = %d, not %d", tx, got, want)
		}
		for node := -1; node <= len(m.sites); node++ {
			if got, want := w.Known(tx, node), m.known(tx, node); got != want {
				t.Fatalf("Known(%d, %d) = %d, not %d", tx, node, got, want)
			}
		}
	}
	for node, x := range m.sites {
		if got := rowsOf(t, w, node); !maps.Equal(got, x.rows) {
			t.Fatalf("the rows of %d are not those of the model", node)
		}
	}
}

// rowsOf are the rows of a node, which are in order.
func rowsOf(t *testing.T, w *commit.World, node int) map[string]string {
	t.Helper()
	rows := map[string]string{}
	last := ""
	for i, x := range w.Rows(node) {
		if i > 0 && string(x.Key) <= last {
			t.Fatalf("%q comes behind %q", x.Key, last)
		}
		last = string(x.Key)
		rows[last] = string(x.Row)
	}
	return rows
}

// histories calls a function with all lists of so many steps at the most.
func histories(all []step, most int, then func([]step)) {
	var grow func(l []step)
	grow = func(l []step) {
		then(l)
		if len(l) == most {
			return
		}
		for _, s := range all {
			grow(append(slices.Clip(l), s))
		}
	}
	grow(nil)
}

// one is one of a list.
func one[T any](r *rand.Rand, l ...T) T { return l[r.IntN(len(l))] }

// anyNode is a node, now and then none.
func (m *model) anyNode(r *rand.Rand) int {
	if r.IntN(60) == 0 {
		return one(r, -1, len(m.sites), 15, 16, 1<<40)
	}
	return r.IntN(len(m.sites))
}

// anyTx is a transaction of some node, now and then any number.
func (m *model) anyTx(r *rand.Rand) int {
	x := m.sites[r.IntN(len(m.sites))]
	l := slices.Concat(slices.Collect(maps.Keys(x.deals)), slices.Collect(maps.Keys(x.works)), slices.Collect(maps.Keys(x.past)))
	if len(l) == 0 || r.IntN(30) == 0 {
		return one(r, 0, 1, r.IntN(100), 16*65536*r.IntN(3)+r.IntN(32), -1, -16, 1<<40, 1<<40+1)
	}
	slices.Sort(l)
	return l[r.IntN(len(l))]
}

// anyParticipants are most often those nodes that have rows of a transaction.
func (m *model) anyParticipants(r *rand.Rand, tx int) []int {
	var l []int
	for n, x := range m.sites {
		if x.works[tx] != nil != (r.IntN(20) == 0) {
			l = append(l, n)
		}
	}
	if r.IntN(20) == 0 {
		l = append(l, m.anyNode(r))
	}
	return l
}

// anyLetter is the number of a letter in transit, now and then none.
func (m *model) anyLetter(r *rand.Rand) int {
	l := m.numbers()
	if len(l) == 0 || r.IntN(60) == 0 {
		return one(r, -1, m.next, r.IntN(m.next+1), 1<<40)
	}
	return l[r.IntN(len(l))]
}

// anyRow is a row to be put, now and then one that is too long.
func anyRow(r *rand.Rand) (key, row string) {
	key, row = string(rune('a'+r.IntN(20))), fmt.Sprint(r.IntN(1000))
	switch r.IntN(60) {
	case 0:
		key = string(make([]byte, 199+r.IntN(3)))
	case 1:
		row = string(make([]byte, 1999+r.IntN(3)))
	case 2:
		return "", ""
	}
	return key, row
}

// anyStep is a step that often is of use to a world like the model's. Of so many steps,
// one is a loss of power.
func (m *model) anyStep(r *rand.Rand, losses int) step {
	if r.IntN(losses) == 0 {
		return power(m.anyNode(r), int(r.Uint64())>>r.IntN(64), int(r.Uint64())>>r.IntN(64))
	}
	switch r.IntN(50) {
	case 0, 1, 2, 3:
		return start(m.anyNode(r))
	case 4, 5, 6, 7, 8, 9, 10, 11:
		s := put(m.anyTx(r), m.anyNode(r), "")
		s.key, s.row = anyRow(r)
		return s
	case 12, 13, 14, 15, 16:
		tx := m.anyTx(r)
		return ask(tx, m.anyParticipants(r, tx)...)
	case 17:
		return stop(m.anyTx(r))
	case 18, 19:
		return twice(m.anyLetter(r))
	case 20:
		return lose(m.anyLetter(r))
	case 21, 22, 23, 24, 25, 26, 27, 28, 29, 30:
		return tick(m.anyNode(r))
	}
	return deliver(m.anyLetter(r))
}
