package shard_test

import (
	"maps"
	"math/rand/v2"
	"slices"
	"strconv"
	"strings"
	"testing"

	"frankpledge/api"
	"frankpledge/disk"
	"frankpledge/row"
	"frankpledge/shard"
	"frankpledge/table"
	"frankpledge/wal"
)

// place is where a row may be.
type place struct{ space, key string }

// change is one whose keys and rows are texts, to be held against others.
type change struct {
	place
	row  string
	drop bool
}

func put(space, key, row string) change { return change{place{space, key}, row, false} }
func drop(space, key string) change     { return change{place{space, key}, "", true} }

func (c change) String() string {
	text := strconv.Quote(c.space) + ":" + strconv.Quote(c.key)
	if c.drop {
		return "-" + text
	}
	return "+" + text + "=" + strconv.Quote(c.row)
}

// rec is a record of the log; of what kind, the document's number tells.
type rec struct {
	kind, tx int
	change
}

func plain(kind, tx int) rec { return rec{kind: kind, tx: tx} }

func (r rec) String() string {
	return strconv.Itoa(r.kind) + ":" + strconv.Itoa(r.tx) + r.change.String()
}

// changes tells whether a record has a space and a key, and puts whether it has a
// row, too.
func (r rec) changes() bool { return r.kind == 2 || r.puts() }
func (r rec) puts() bool    { return r.kind == 1 || r.kind == 7 }

func whole(n int) api.Value   { return api.Value{Kind: api.Int, N: int64(n)} }
func text(s string) api.Value { return api.Value{Kind: api.Text, S: s} }
func blob(s string) api.Value { return api.Value{Kind: api.Bytes, S: s} }

// values are those of a record, by the document's words.
func (r rec) values() []api.Value {
	l := []api.Value{whole(r.kind), whole(r.tx)}
	if r.changes() {
		l = append(l, text(r.space), blob(r.key))
	}
	for s := r.row; r.puts() && s != ""; {
		n := min(len(s), 200)
		l = append(l, blob(s[:n]))
		s = s[n:]
	}
	return l
}

// told is a record as the log has it.
func (r rec) told() string { return encoded(r.values()) }

// encoded is any row as the log may have it.
func encoded(l []api.Value) string {
	b, e := row.Encode(l)
	if e != api.OK {
		panic("no row: " + strconv.Itoa(len(l)))
	}
	return string(b)
}

// state is that of a transaction.
type state struct {
	changes  []change
	prepared bool
}

// model is what the document says of a shard and of its log.
type model struct {
	rows map[place]string
	txs  map[int]state
	log  []rec
	safe int // so many records are durable
	used int // bytes of the disk
}

func newModel() *model {
	return &model{rows: map[place]string{}, txs: map[int]state{}}
}

// step is a call that may change a shard, with its arguments.
type step struct {
	name string
	tx   int
	change
	n int // of Back: the mark; of Power: how many bytes to keep
}

func (s step) String() string {
	return s.name + "(" + strconv.Itoa(s.tx) + ", " + s.change.String() + ", " + strconv.Itoa(s.n) + ")"
}

func on(name string, tx int) step      { return step{name: name, tx: tx} }
func putting(tx int, c change) step    { return step{name: "Put", tx: tx, change: c} }
func dropping(tx int, c change) step   { return step{name: "Drop", tx: tx, change: c} }
func backTo(tx, mark int) step         { return step{name: "Back", tx: tx, n: mark} }
func power(keep int) step              { return step{name: "Power", n: keep} }
func begun(tx int, l ...change) []step { return append([]step{on("Begin", tx)}, all(tx, l...)...) }

// all are the steps by which a transaction has some changes.
func all(tx int, l ...change) []step {
	var steps []step
	for _, c := range l {
		if c.drop {
			steps = append(steps, dropping(tx, c))
		} else {
			steps = append(steps, putting(tx, c))
		}
	}
	return steps
}

// pair is a shard with its disk.
type pair struct {
	d *disk.Disk
	s *shard.Shard
}

// opened is the shard on a disk.
func opened(d *disk.Disk) (pair, api.Errno) {
	s, e := shard.Open(d)
	return pair{d, s}, e
}

// fresh is a shard on a new disk, with its model.
func fresh(t *testing.T) (*model, *pair) {
	t.Helper()
	p, e := opened(disk.New())
	if e != api.OK {
		t.Fatalf("Open = %d", e)
	}
	return newModel(), &p
}

// do does a step on a shard.
func (p *pair) do(s step) (e api.Errno) {
	switch s.name {
	case "Begin":
		return p.s.Begin(s.tx)
	case "Put":
		return p.s.Put(s.tx, s.space, []byte(s.key), []byte(s.row))
	case "Drop":
		return p.s.Drop(s.tx, s.space, []byte(s.key))
	case "Back":
		return p.s.Back(s.tx, s.n)
	case "Prepare":
		return p.s.Prepare(s.tx)
	case "Commit":
		return p.s.Commit(s.tx)
	case "Abort":
		return p.s.Abort(s.tx)
	case "Image":
		return p.s.Image()
	case "Open":
		*p, e = opened(p.d)
		return e
	}
	*p, e = opened(p.d.Power(s.n))
	return e
}

// do does a step on the model, and tells what the document says of the answer.
func (m *model) do(s step) api.Errno {
	x, known := m.txs[s.tx]
	switch s.name {
	case "Begin":
		return m.begin(s.tx)
	case "Image":
		return m.image()
	case "Open":
		m.left(len(m.log))
		return api.OK
	case "Power":
		m.left(m.safe + m.kept(s.n))
		return api.OK
	}
	if !known {
		return api.ErrNoTx
	}
	switch s.name {
	case "Prepare":
		return m.prepare(s.tx, x)
	case "Commit":
		return m.commit(s.tx, x)
	case "Abort":
		return m.abort(s.tx, x)
	}
	return m.change(s, x)
}

func (m *model) begin(tx int) api.Errno {
	if _, known := m.txs[tx]; known {
		return api.ErrUnique
	}
	if tx < 0 || tx > 1099511627776 {
		return api.ErrArg
	}
	m.txs[tx] = state{}
	return api.OK
}

// change does a Put, a Drop or a Back.
func (m *model) change(s step, x state) api.Errno {
	if x.prepared {
		return api.ErrDoubt
	}
	if s.name == "Back" {
		if s.n < 0 || s.n > len(x.changes) {
			return api.ErrArg
		}
		m.txs[s.tx] = state{x.changes[:s.n:s.n], false}
		return api.OK
	}
	c := s.change
	c.drop = s.name == "Drop"
	if len(c.space) > 32 || len(c.key) > 200 || !c.drop && len(c.row) > 2000 {
		return api.ErrArg
	}
	if c.drop {
		c.row = ""
		if _, seen := m.sees(s.tx)[c.place]; !seen {
			return api.ErrNoRow
		}
	}
	m.txs[s.tx] = state{append(slices.Clip(x.changes), c), false}
	return api.OK
}

func (m *model) prepare(tx int, x state) api.Errno {
	if x.prepared {
		return api.ErrDoubt
	}
	if !m.lay(x.told(tx, 3)...) {
		return api.ErrFull
	}
	m.safe = len(m.log)
	m.txs[tx] = state{x.changes, true}
	return api.OK
}

func (m *model) commit(tx int, x state) api.Errno {
	l := x.told(tx, 4)
	if x.prepared {
		l = l[len(l)-1:]
	}
	if !m.lay(l...) {
		return api.ErrFull
	}
	m.safe = len(m.log)
	m.rows = m.sees(tx)
	delete(m.txs, tx)
	return api.OK
}

func (m *model) abort(tx int, x state) api.Errno {
	if x.prepared && !m.lay(plain(5, tx)) {
		return api.ErrFull
	}
	delete(m.txs, tx)
	return api.OK
}

func (m *model) image() api.Errno {
	l := []rec{plain(6, 0)}
	for _, c := range sorted(m.rows) {
		l = append(l, rec{7, 0, c})
	}
	l = append(l, plain(8, 0))
	for _, tx := range m.doubts() {
		l = append(l, m.txs[tx].told(tx, 3)...)
	}
	before := len(m.log)
	if !m.lay(l...) {
		return api.ErrFull
	}
	m.used -= frames(m.log[:before])
	m.log = m.log[before:]
	m.safe = len(m.log)
	return api.OK
}

// left is what there is after a loss of power that leaves the first few records.
func (m *model) left(records int) {
	m.log = slices.Clip(m.log[:records])
	m.safe = records
	m.used = frames(m.log)
	m.rows, m.txs = recovered(m.log)
}

// kept is how many of the records that aren't durable a loss of power leaves, if it
// leaves some of their bytes.
func (m *model) kept(keep int) int {
	others := m.log[m.safe:]
	if keep < 0 {
		keep = -(keep + 1)
	}
	keep %= frames(others) + 1
	for i := range others {
		if frames(others[:i+1]) > keep {
			return i
		}
	}
	return len(others)
}

// told are the records of a transaction, of which the last one is of a kind.
func (x state) told(tx, end int) []rec {
	l := []rec{plain(0, tx)}
	for _, c := range x.changes {
		if c.drop {
			l = append(l, rec{2, tx, c})
		} else {
			l = append(l, rec{1, tx, c})
		}
	}
	return append(l, plain(end, tx))
}

// frames is how many bytes the frames of records have.
func frames(l []rec) int {
	n := 0
	for _, r := range l {
		n += 5 + len(r.told())
	}
	return n
}

// lay puts records into the log, if there is room for them.
func (m *model) lay(l ...rec) bool {
	if m.used+frames(l) > 1048576 {
		return false
	}
	m.log = append(m.log, l...)
	m.used += frames(l)
	return true
}

// sees are the rows that a transaction sees.
func (m *model) sees(tx int) map[place]string {
	rows := maps.Clone(m.rows)
	for _, c := range m.txs[tx].changes {
		c.apply(rows)
	}
	return rows
}

func (c change) apply(rows map[place]string) {
	if c.drop {
		delete(rows, c.place)
	} else {
		rows[c.place] = c.row
	}
}

// doubts are the prepared transactions.
func (m *model) doubts() []int {
	var l []int
	for tx, x := range m.txs {
		if x.prepared {
			l = append(l, tx)
		}
	}
	slices.Sort(l)
	return l
}

// sorted are rows by their spaces, then by their keys.
func sorted(rows map[place]string) []change {
	var l []change
	for p, r := range rows {
		l = append(l, change{p, r, false})
	}
	slices.SortFunc(l, func(a, b change) int {
		if a.space != b.space {
			return strings.Compare(a.space, b.space)
		}
		return strings.Compare(a.key, b.key)
	})
	return l
}

// between are the rows of a space with keys from one up to, but without, another one.
func between(rows map[place]string, space, from, to string) []change {
	return slices.DeleteFunc(sorted(rows), func(c change) bool {
		return c.space != space || c.key < from || to != "" && c.key >= to
	})
}

// texts are entries as rows of a space.
func texts(space string, l []table.Entry) []change {
	var rows []change
	for _, x := range l {
		rows = append(rows, put(space, string(x.Key), string(x.Row)))
	}
	return rows
}

// changed are changes that a shard tells of.
func changed(l []shard.Change) []change {
	var texts []change
	for _, c := range l {
		texts = append(texts, change{place{c.Space, string(c.Key)}, string(c.Row), c.Drop})
	}
	return texts
}

// follow does steps on a shard and on its model, and holds the answers against each
// other; it tells the last one.
func (m *model) follow(t *testing.T, p *pair, l ...step) (e api.Errno) {
	t.Helper()
	for _, s := range l {
		want := m.do(s)
		if e = p.do(s); e != want {
			t.Fatalf("%.200v = %d, not %d", s, e, want)
		}
	}
	return e
}

// checkLog holds the log of a shard against the model. It is read from a copy of the
// disk, as opening a log makes it durable.
func (m *model) checkLog(t *testing.T, d *disk.Disk) {
	t.Helper()
	safe := frames(m.log[:m.safe])
	if d.End()-d.Begin() != m.used || d.Safe()-d.Begin() != safe {
		t.Fatalf("%d bytes are on the disk, %d of them durable, not %d, %d", d.End()-d.Begin(), d.Safe()-d.Begin(), m.used, safe)
	}
	w, _ := wal.Open(d.Power(d.End() - d.Safe()))
	numbers := w.Numbers()
	if len(numbers) != len(m.log) {
		t.Fatalf("%d records, not %d", len(numbers), len(m.log))
	}
	for i, n := range numbers {
		if b, e := w.Read(n); string(b) != m.log[i].told() || e != api.OK {
			t.Fatalf("record %d of %d is %q, not %q", i, len(numbers), b, m.log[i].told())
		}
	}
}

// checkTx holds all that a shard tells of a transaction against the model: of its
// rows, those of some spaces.
func (m *model) checkTx(t *testing.T, s *shard.Shard, tx int, spaces ...string) {
	t.Helper()
	x, known := m.txs[tx]
	if got := s.Mark(tx); got != len(x.changes) {
		t.Fatalf("Mark(%d) = %d, not %d", tx, got, len(x.changes))
	}
	if got := changed(s.Changes(tx)); !slices.Equal(got, x.changes) {
		t.Fatalf("Changes(%d) = %.300v, not %.300v", tx, got, x.changes)
	}
	fault := api.ErrNoTx
	seen := map[place]string{}
	if known {
		fault, seen = api.OK, m.sees(tx)
	}
	for _, space := range spaces {
		l, e := s.Range(tx, space, nil, nil)
		if got := texts(space, l); e != fault || !slices.Equal(got, between(seen, space, "", "")) {
			t.Fatalf("Range(%d, %q) = %.300v, %d, not %.300v, %d", tx, space, got, e, between(seen, space, "", ""), fault)
		}
	}
}

// checkGet holds the row that a transaction sees at a place against the model.
func (m *model) checkGet(t *testing.T, s *shard.Shard, tx int, at place) {
	t.Helper()
	want, seen := m.sees(tx)[at]
	fault := api.OK
	if !seen {
		want, fault = "", api.ErrNoRow
	}
	if _, known := m.txs[tx]; !known {
		want, fault = "", api.ErrNoTx
	}
	if b, e := s.Get(tx, at.space, []byte(at.key)); string(b) != want || e != fault {
		t.Fatalf("Get(%d, %q) = %.60q, %d, not %.60q, %d", tx, at, b, e, want, fault)
	}
}

// checkRows holds the committed rows of some spaces, and the transactions in doubt,
// against the model.
func (m *model) checkRows(t *testing.T, s *shard.Shard, spaces ...string) {
	t.Helper()
	for _, space := range spaces {
		if got, want := texts(space, s.Rows(space)), between(m.rows, space, "", ""); !slices.Equal(got, want) {
			t.Fatalf("Rows(%q) = %.300v, not %.300v", space, got, want)
		}
	}
	if got := s.Doubts(); !slices.Equal(got, m.doubts()) {
		t.Fatalf("Doubts = %v, not %v", got, m.doubts())
	}
}

// check holds all that a shard of few rows tells against the model.
func (m *model) check(t *testing.T, p *pair) {
	t.Helper()
	m.checkLog(t, p.d)
	m.checkRows(t, p.s, spaces()...)
	for _, tx := range numbers() {
		m.checkTx(t, p.s, tx, spaces()...)
		for _, space := range spaces() {
			for _, key := range keys() {
				m.checkGet(t, p.s, tx, place{space, key})
			}
		}
	}
}

func spaces() []string { return []string{"", "t", "tt", "u", strings.Repeat("s", 32)} }
func keys() []string   { return []string{"", "\x00", "a", "a\x00", "b", "\xff"} }
func numbers() []int   { return []int{-1, 0, 1, 2, 3, api.MaxNumber, api.MaxNumber + 1} }

// histories visits all lists of so many steps at the most.
func histories[T any](all []T, most int, visit func(l []T)) {
	var grow func(l []T)
	grow = func(l []T) {
		visit(l)
		for _, s := range all {
			if len(l) < most {
				grow(append(slices.Clip(l), s))
			}
		}
	}
	grow(nil)
}

// letters are so many bytes, which tell a place from those about it.
func letters(n int) string {
	return strings.Repeat("abcdefghijklmnopqrstuvwxyz0123456789L", n/37+1)[:n]
}

// anyChange puts or drops a row at one of few places; rows have at most so many bytes.
func anyChange(r *rand.Rand, most int) change {
	c := put(spaces()[r.IntN(3)], keys()[r.IntN(6)], letters(r.IntN(most+1)))
	if r.IntN(3) == 0 {
		return drop(c.space, c.key)
	}
	return c
}

// anyStep is a step of one of some transactions.
func anyStep(r *rand.Rand, txs, most int) step {
	tx := r.IntN(txs)
	switch r.IntN(24) {
	case 0, 1, 2, 3, 4:
		return on("Begin", tx)
	case 5, 6, 7, 8, 9, 10, 11, 12:
		return all(tx, anyChange(r, most))[0]
	case 13:
		return backTo(tx, r.IntN(4)-1)
	case 14, 15, 16:
		return on("Prepare", tx)
	case 17, 18, 19:
		return on("Commit", tx)
	case 20, 21:
		return on("Abort", tx)
	case 22:
		return step{name: []string{"Image", "Open"}[r.IntN(2)]}
	}
	return power(int(r.Uint64()) >> r.IntN(64))
}
