package shard_test

import (
	"fmt"
	"maps"
	"math"
	"math/rand/v2"
	"slices"
	"strings"
	"testing"

	"frankpledge/api"
	"frankpledge/disk"
	"frankpledge/shard"
	"frankpledge/wal"
)

// recovered are the rows and the transactions that records describe, by the words of
// S4, record by record: what each one does is looked up in those ahead of it.
func recovered(l []rec) (map[place]string, map[int]state) {
	rows, txs := map[place]string{}, map[int]state{}
	first, end := snapshot(l)
	for _, r := range l[first:end] {
		if r.kind == 7 {
			r.apply(rows)
		}
	}
	l = l[end:]
	for i, r := range l {
		if r.kind == 4 {
			for _, c := range since(l[:i], r.tx) {
				c.apply(rows)
			}
		}
		// The last record of its transaction other than 1 and 2.
		if r.kind == 3 && !slices.ContainsFunc(l[i+1:], func(x rec) bool {
			return x.tx == r.tx && slices.Contains([]int{0, 3, 4, 5}, x.kind)
		}) {
			txs[r.tx] = state{since(l, r.tx), true}
		}
	}
	return rows, txs
}

// snapshot is where the last one begins that is whole, and where it ends.
func snapshot(l []rec) (first, end int) {
	for i := range l {
		j := i + 1
		for j < len(l) && l[j].kind == 7 {
			j++
		}
		if l[i].kind == 6 && j < len(l) && l[j].kind == 8 {
			first, end = i, j+1
		}
	}
	return first, end
}

// since are the changes that a transaction has after some records.
func since(l []rec, tx int) []change {
	var changes []change
	for _, r := range slices.Backward(l) {
		if r.tx == tx && (r.kind == 0 || r.kind == 4 || r.kind == 5) {
			break
		}
		if r.tx == tx && (r.kind == 1 || r.kind == 2) {
			changes = append([]change{r.change}, changes...)
		}
	}
	return changes
}

// logged is a disk with a log of records.
func logged(t *testing.T, records ...string) *disk.Disk {
	t.Helper()
	d := disk.New()
	w, _ := wal.Open(d)
	for _, b := range records {
		if _, e := w.Append([]byte(b)); e != api.OK {
			t.Fatalf("Append(%.60q) = %d", b, e)
		}
	}
	return d
}

// checkOpen opens the shard of some records, and holds it against the model.
func checkOpen(t *testing.T, l []rec) {
	t.Helper()
	var told []string
	for _, r := range l {
		told = append(told, r.told())
	}
	p, e := opened(logged(t, told...))
	if e != api.OK {
		t.Fatalf("Open = %d", e)
	}
	m := newModel()
	m.log = l
	m.left(len(l))
	m.checkRows(t, p.s, "", "t", "u")
	for tx := range 4 {
		if got := changed(p.s.Changes(tx)); !slices.Equal(got, m.txs[tx].changes) {
			t.Fatalf("after %v: Changes(%d) = %v, not %v", l, tx, got, m.txs[tx].changes)
		}
	}
	m.checkLog(t, p.d)
}

// P10.1 (S4): no disk, and a new one.
func TestOpen(t *testing.T) {
	if s, e := shard.Open(nil); s != nil || e != api.ErrArg {
		t.Errorf("Open of no disk = %v, %d", s, e)
	}
	m, p := fresh(t)
	m.check(t, p)
	other, e := opened(disk.New())
	if e != api.OK {
		t.Fatalf("Open = %d", e)
	}
	m.follow(t, p, begun(1, put("t", "a", "x"))...)
	m.follow(t, p, on("Commit", 1))
	newModel().check(t, &other)
}

// P10.1 (S4): logs by hand.
func TestRecoveryByHand(t *testing.T) {
	a, b, x := put("t", "a", "one"), put("t", "b", "two"), drop("t", "a")
	of := func(kind, tx int, c change) rec { return rec{kind, tx, c} }
	six, eight := plain(6, 0), plain(8, 0)
	for i, c := range []struct {
		log    []rec
		rows   string // the committed ones of t
		doubts string // with their changes
	}{
		{nil, "", ""},
		{[]rec{plain(0, 1), of(1, 1, a), plain(4, 1)}, "a=one", ""},
		{[]rec{plain(0, 1), of(1, 1, a)}, "", ""},
		{[]rec{plain(0, 1), of(1, 1, a), plain(3, 1)}, "", "1:+a"},
		{[]rec{plain(0, 1), of(1, 1, a), plain(3, 1), plain(4, 1)}, "a=one", ""},
		{[]rec{plain(0, 1), of(1, 1, a), plain(3, 1), plain(5, 1)}, "", ""},
		{[]rec{plain(0, 1), of(1, 1, a), plain(3, 1), plain(5, 1), plain(4, 1)}, "", ""},
		{[]rec{plain(0, 1), of(1, 1, a), plain(4, 1), plain(0, 1), of(2, 1, x), plain(4, 1)}, "", ""},
		{[]rec{plain(0, 1), of(1, 1, a), of(1, 1, b), of(2, 1, x), plain(4, 1)}, "b=two", ""},
		// A 0 takes changes away, and a transaction out of doubt.
		{[]rec{plain(0, 1), of(1, 1, a), plain(0, 1), of(1, 1, b), plain(4, 1)}, "b=two", ""},
		{[]rec{plain(0, 1), of(1, 1, a), plain(3, 1), plain(0, 1), of(1, 1, b)}, "", ""},
		{[]rec{plain(0, 1), of(1, 1, a), plain(3, 1), plain(0, 1), of(1, 1, b), plain(3, 1)}, "", "1:+b"},
		// Without a 0, and without anything.
		{[]rec{of(1, 1, a), plain(4, 1)}, "a=one", ""},
		{[]rec{of(1, 1, a), plain(3, 1)}, "", "1:+a"},
		{[]rec{of(2, 1, x), plain(4, 1)}, "", ""},
		{[]rec{of(2, 1, x), plain(3, 1)}, "", "1:-a"},
		{[]rec{plain(3, 1)}, "", "1:"},
		{[]rec{plain(4, 1)}, "", ""},
		{[]rec{plain(5, 1)}, "", ""},
		{[]rec{plain(0, 1)}, "", ""},
		// One more change of one that is prepared already.
		{[]rec{plain(0, 1), of(1, 1, a), plain(3, 1), of(1, 1, b)}, "", "1:+a+b"},
		{[]rec{plain(3, 1), of(1, 1, a), plain(4, 1)}, "a=one", ""},
		// What was applied isn't applied again.
		{[]rec{of(1, 1, a), plain(4, 1), of(1, 2, x), of(2, 2, x), plain(4, 2), plain(4, 1)}, "", ""},
		{[]rec{of(1, 1, a), plain(4, 1), plain(3, 1)}, "a=one", "1:"},
		// Several at a time, by their numbers.
		{[]rec{of(1, 3, a), of(1, 2, b), plain(3, 3), of(2, 2, x), plain(3, 2), plain(3, 0)}, "", "0:,2:+b-a,3:+a"},
		{[]rec{of(1, 1, a), of(2, 2, x), plain(4, 1), plain(4, 2), of(1, 1, b), plain(4, 1)}, "b=two", ""},
		// Snapshots.
		{[]rec{of(1, 1, a), plain(4, 1), of(1, 2, a), plain(3, 2), six, of(7, 0, b), eight}, "b=two", ""},
		{[]rec{of(1, 1, a), plain(4, 1), of(1, 2, a), plain(3, 2), six, eight}, "", ""},
		{[]rec{of(1, 1, a), six, eight, plain(4, 1), plain(3, 1)}, "", "1:"},
		{[]rec{of(1, 1, a), plain(4, 1), six, of(7, 0, b)}, "a=one", ""},
		{[]rec{of(1, 1, a), plain(4, 1), of(7, 0, b), eight}, "a=one", ""},
		{[]rec{of(1, 1, a), six, of(7, 0, b), plain(4, 1), eight}, "a=one", ""},
		{[]rec{six, of(7, 0, a), eight, six, of(7, 0, b), plain(0, 0), eight}, "a=one", ""},
		{[]rec{six, of(7, 0, a), eight, of(7, 0, b), eight, plain(6, 0)}, "a=one", ""},
		{[]rec{six, of(7, 0, a), six, of(7, 0, b), eight}, "b=two", ""},
		{[]rec{six, of(7, 0, a), eight, six, of(7, 0, b), eight}, "b=two", ""},
		{[]rec{six, of(7, 0, a), eight, of(2, 5, x), of(1, 5, b), plain(4, 5), of(1, 6, a), plain(3, 6)}, "b=two", "6:+a"},
	} {
		var told []string
		for _, r := range c.log {
			told = append(told, r.told())
		}
		p, e := opened(logged(t, told...))
		if e != api.OK || rowsOf(p.s) != c.rows || doubtsOf(p.s) != c.doubts {
			t.Errorf("log %d: Open = %d: rows %q, doubts %q, not %q, %q", i, e, rowsOf(p.s), doubtsOf(p.s), c.rows, c.doubts)
		}
		checkOpen(t, c.log)
	}
}

// rowsOf are the committed rows of space t, as text.
func rowsOf(s *shard.Shard) string {
	var l []string
	for _, x := range s.Rows("t") {
		l = append(l, string(x.Key)+"="+string(x.Row))
	}
	return strings.Join(l, ",")
}

// doubtsOf are the transactions in doubt, with the signs and keys of their changes.
func doubtsOf(s *shard.Shard) string {
	var l []string
	for _, tx := range s.Doubts() {
		text := fmt.Sprint(tx) + ":"
		for _, c := range s.Changes(tx) {
			text += map[bool]string{false: "+", true: "-"}[c.Drop] + string(c.Key)
		}
		l = append(l, text)
	}
	return strings.Join(l, ",")
}

// P10.1 (S4): all short logs, of two transactions and of snapshots.
func TestAllShortLogs(t *testing.T) {
	a, b := put("t", "a", "x"), put("t", "b", "y")
	pool := []rec{plain(0, 1), {1, 1, a}, {2, 1, drop("t", "a")}, plain(3, 1), plain(4, 1), plain(5, 1), plain(0, 0), {1, 0, b}, plain(3, 0), plain(4, 0), plain(6, 0), {7, 0, put("t", "a", "z")}, plain(8, 0)}
	one := []rec{plain(0, 1), {1, 1, a}, {1, 1, put("t", "a", "y")}, {2, 1, drop("t", "a")}, plain(3, 1), plain(4, 1), plain(5, 1)}
	images := []rec{plain(6, 0), {7, 0, a}, {7, 0, b}, plain(8, 0), plain(4, 1)}
	count := 0
	open := func(l []rec) { checkOpen(t, l); count++ }
	histories(pool, 4, open)
	histories(one, 5, open)
	histories(images, 6, func(l []rec) { open(append([]rec{{1, 1, put("t", "c", "")}}, l...)) })
	if count < 60000 {
		t.Errorf("only %d logs", count)
	}
}

// P10.1 (S4): any long logs.
func TestAnyLogs(t *testing.T) {
	r := rand.New(rand.NewPCG(1, 2))
	whole := 0
	for range 4000 {
		var l []rec
		for range r.IntN(60) {
			x := rec{r.IntN(6), r.IntN(3), change{}}
			if r.IntN(3) == 0 {
				x = rec{6 + r.IntN(3), 0, change{}}
			}
			if x.changes() {
				x.change = put("t", string([]byte{byte('a' + r.IntN(3))}), letters(r.IntN(3)))
			}
			if x.kind == 2 {
				x.row, x.drop = "", true
			}
			l = append(l, x)
			if r.IntN(100) == 0 {
				l = append(l, plain(6, 0), rec{7, 0, put("u", "k", "r")}, plain(8, 0))
			}
		}
		if _, end := snapshot(l); end > 0 {
			whole++
		}
		checkOpen(t, l)
	}
	if whole < 1000 {
		t.Errorf("only %d have a whole snapshot", whole)
	}
}

// bad are records that are none of those that the document lists.
func bad() []string {
	n, long := whole, strings.Repeat("a", 200)
	row := func(kind int, tx int, pieces ...string) []api.Value {
		l := []api.Value{n(kind), n(tx), text("t"), blob("k")}
		for _, p := range pieces {
			l = append(l, blob(p))
		}
		return l
	}
	var l []string
	for _, v := range [][]api.Value{
		{}, {n(0)}, {n(4)}, {{}, n(1)}, {n(0), {}}, {text("0"), n(1)}, {n(0), text("1")}, {{Kind: api.Dec, N: 4}, n(1)}, {n(4), {Kind: api.Dec, N: 1}},
		{{Kind: api.Bool}, n(1)}, {n(3), {Kind: api.Bool, N: 1}}, {n(-1), n(1)}, {n(9), n(0)}, {n(9), n(1)}, {n(256), n(1)}, {n(260), n(1)},
		{n(math.MinInt), n(1)}, {n(math.MaxInt), n(1)}, {n(1<<32 + 4), n(1)}, {n(1<<32 + 8), n(0)},
		{n(0), n(-1)}, {n(4), n(-1)}, {n(0), n(api.MaxNumber + 1)}, {n(3), n(api.MaxNumber + 1)}, {n(5), n(math.MaxInt)}, {n(0), n(math.MinInt)},
		{n(6), n(1)}, {n(8), n(1)}, {n(6), n(-1)}, {n(8), n(api.MaxNumber)}, row(7, 1), row(7, -1, "r"), row(7, api.MaxNumber),
		row(1, -1, "r"), row(2, -1), row(1, api.MaxNumber+1), row(2, api.MaxNumber+1),
		{n(0), n(1), n(0)}, {n(3), n(1), {}}, {n(4), n(1), text("")}, {n(5), n(1), blob("")}, {n(6), n(0), n(0)}, {n(8), n(0), {}}, {n(6), n(0), text(""), blob("")},
		row(0, 1), row(3, 1), row(4, 1), row(5, 1), row(6, 0), row(8, 0), row(9, 0), row(0, 1, "r"), row(8, 0, "r"),
		{n(1), n(1)}, {n(2), n(1)}, {n(7), n(0)}, {n(1), n(1), text("t")}, {n(2), n(1), text("t")}, {n(7), n(0), text("t")},
		{n(1), n(1), blob("t"), blob("k")}, {n(2), n(1), blob("t"), blob("k")}, {n(7), n(0), blob("t"), blob("k")},
		{n(1), n(1), text("t"), text("k")}, {n(2), n(1), text("t"), text("k")}, {n(7), n(0), text("t"), text("k")},
		{n(1), n(1), {}, blob("k")}, {n(2), n(1), text("t"), {}}, {n(1), n(1), text("t"), blob("k"), text("r")}, {n(7), n(0), text("t"), blob("k"), {}},
		row(2, 1, ""), row(2, 1, "r"), row(1, 1, ""), row(7, 0, ""), row(1, 1, "r", ""), row(1, 1, long, ""), row(7, 0, long, ""),
		row(1, 1, "a", "b"), row(1, 1, long[1:], "b"), row(7, 0, long[1:], "b"), row(1, 1, "a", long), row(1, 1, long, "a", long), row(7, 0, "", long), row(1, 1, long, long[1:], "a"),
		row(1, 1, slices.Repeat([]string{long}, 11)...), row(7, 0, slices.Repeat([]string{long}, 12)...), row(1, 1, append(slices.Repeat([]string{long}, 10), "a")...),
		{n(1), n(1), text(long[:33]), blob("k")}, {n(2), n(1), text(long[:33]), blob("k")}, {n(7), n(0), text(long), blob("k")},
	} {
		l = append(l, encoded(v))
	}
	fine := rec{1, 1, put("t", "k", "r")}.told()
	return append(l, fine[:len(fine)-1], fine+"\x00", "\x00\x00", "\x02\x02\x00\x02", "\x02\x02\x80\x00\x02\x02", "L", "\x11", letters(4096))
}

// P10.1 (S4): a record that is none ends the recovery, and so does one in a snapshot.
// What follows it has no effect, but stays on the disk.
func TestBadRecords(t *testing.T) {
	a, b := rec{1, 1, put("t", "a", "one")}.told(), rec{1, 1, put("t", "b", "two")}.told()
	end, image := plain(4, 1).told(), []string{plain(6, 0).told(), rec{7, 0, put("t", "b", "two")}.told(), plain(8, 0).told()}
	for i, x := range bad() {
		for _, c := range []struct {
			log          []string
			rows, doubts string
		}{
			{[]string{x}, "", ""},
			{[]string{a, end, x, b, end}, "a=one", ""},
			{[]string{a, x, end}, "", ""},
			{[]string{a, end, b, plain(3, 1).told(), x, end}, "a=one", "1:+b"},
			{append([]string{a, end, x}, image...), "a=one", ""},
			{[]string{a, end, image[0], image[1], x, image[2]}, "a=one", ""},
			{append(slices.Clone(image), x, a, end), "b=two", ""},
		} {
			d := logged(t, c.log...)
			bytes := d.End()
			p, e := opened(d)
			if e != api.OK || rowsOf(p.s) != c.rows || doubtsOf(p.s) != c.doubts {
				t.Errorf("record %d, %.80q: Open = %d: rows %q, doubts %q, not %q, %q", i, x, e, rowsOf(p.s), doubtsOf(p.s), c.rows, c.doubts)
			}
			if d.Begin() != 0 || d.End() != bytes || d.Safe() != bytes {
				t.Errorf("record %d: Open leaves %d to %d of %d bytes", i, d.Begin(), d.End(), bytes)
			}
		}
	}
}

// P10.1 (S4): a snapshot does away with a record that is none.
func TestImageBehindBad(t *testing.T) {
	p, _ := opened(logged(t, rec{1, 1, put("t", "a", "one")}.told(), plain(4, 1).told(), "none"))
	m := newModel()
	m.rows[place{"t", "a"}] = "one"
	if e, want := p.s.Image(), m.image(); e != want {
		t.Fatalf("Image = %d, not %d", e, want)
	}
	m.check(t, &p)
	m.follow(t, &p, begun(1, drop("t", "a"))...)
	m.follow(t, &p, on("Commit", 1), power(0))
	m.check(t, &p)
}

// P10.1 (S4): records at the limits are records.
func TestGoodRecords(t *testing.T) {
	long := letters(2000)
	for _, r := range []rec{
		{1, 0, put("", "", "")}, {1, api.MaxNumber, put("t", "k", "r")}, {1, 1, put(letters(32), letters(200), long)}, {1, 1, put("\xff\x00", "\x00", "\x00")},
		{1, 1, put("t", "k", long[:200])}, {1, 1, put("t", "k", long[:201])}, {1, 1, put("t", "k", long[:399])}, {1, 1, put("t", "k", long[:400])}, {1, 1, put("t", "k", long[:1801])},
	} {
		for _, l := range [][]rec{{r, plain(4, r.tx)}, {plain(6, 0), {7, 0, r.change}, plain(8, 0)}, {r, plain(3, r.tx)}, {r, {2, r.tx, drop(r.space, r.key)}, plain(3, r.tx)}} {
			var told []string
			for _, x := range l {
				told = append(told, x.told())
			}
			p, e := opened(logged(t, told...))
			m := newModel()
			m.log = l
			m.left(len(l))
			if len(m.rows)+len(m.txs) == 0 || e != api.OK {
				t.Fatalf("Open = %d: %d rows, %d transactions", e, len(m.rows), len(m.txs))
			}
			m.checkRows(t, p.s, r.space)
			m.checkTx(t, p.s, r.tx, r.space)
			m.checkLog(t, p.d)
		}
	}
}

// ledger is what P10.2 says of a shard, told by the calls that returned OK alone.
type ledger struct {
	rows     map[place]string
	prepared map[int][]change
	aborted  map[int][]change // without a sync afterwards
}

// note keeps what a step that returned OK means for the time after a loss of power.
// changes are those that the step's transaction had ahead of it.
func (l *ledger) note(s step, changes []change) {
	before, sure := l.prepared[s.tx]
	switch s.name {
	case "Prepare":
		l.prepared[s.tx] = changes
	case "Commit":
		for _, c := range changes {
			c.apply(l.rows)
		}
		delete(l.prepared, s.tx)
	case "Abort":
		delete(l.prepared, s.tx)
		if sure {
			l.aborted[s.tx] = before
		}
		return
	case "Image", "Open":
	default:
		return
	}
	clear(l.aborted)
}

// hold holds a shard that was opened after a loss of power against the ledger, and
// keeps which transactions are in doubt again.
func (l *ledger) hold(t *testing.T, s *shard.Shard) {
	t.Helper()
	for _, space := range spaces() {
		if got := texts(space, s.Rows(space)); !slices.Equal(got, between(l.rows, space, "", "")) {
			t.Fatalf("Rows(%q) = %v, not %v", space, got, between(l.rows, space, "", ""))
		}
	}
	doubts := s.Doubts()
	for _, tx := range doubts {
		if changes, again := l.aborted[tx]; again {
			l.prepared[tx] = changes
		}
		if got := changed(s.Changes(tx)); !slices.Equal(got, l.prepared[tx]) {
			t.Fatalf("Changes(%d) = %v, not %v", tx, got, l.prepared[tx])
		}
	}
	if want := slices.Sorted(maps.Keys(l.prepared)); !slices.Equal(doubts, want) {
		t.Fatalf("Doubts = %v, not %v", doubts, want)
	}
	clear(l.aborted)
}

// P10.2: power goes at any time in long histories, and leaves any bytes.
func TestPower(t *testing.T) {
	r := rand.New(rand.NewPCG(3, 4))
	again, gone := 0, 0
	for range 100 {
		_, p := fresh(t)
		l := &ledger{map[place]string{}, map[int][]change{}, map[int][]change{}}
		for range 400 {
			s := anyStep(r, 4, 5)
			if r.IntN(2) == 0 {
				s.n = p.d.End() - p.d.Safe()
			}
			changes := changed(p.s.Changes(s.tx))
			unsynced, known := len(l.aborted), len(l.prepared)
			if e := p.do(s); e != api.OK {
				continue
			}
			if s.name != "Power" {
				l.note(s, changes)
				continue
			}
			l.hold(t, p.s)
			again += len(l.prepared) - known
			gone += unsynced - (len(l.prepared) - known)
		}
	}
	if again < 50 || gone < 50 {
		t.Errorf("of those aborted, only %d were prepared again, and %d unknown", again, gone)
	}
}

// P10.1 (S4), P10.2: power goes in the midst of a call, and leaves each number of the
// bytes that it wrote.
func TestPowerInCalls(t *testing.T) {
	r := rand.New(rand.NewPCG(5, 6))
	calls := map[string]int{}
	for range 1500 {
		m, p := fresh(t)
		for range 10 + r.IntN(25) {
			m.follow(t, p, anyStep(r, 3, 4))
		}
		s := on([]string{"Prepare", "Commit", "Abort", "Image"}[r.IntN(4)], r.IntN(3))
		before, old := bytesOf(t, p.d), &model{rows: m.rows, txs: maps.Clone(m.txs), log: slices.Clone(m.log)}
		if m.follow(t, p, s) != api.OK {
			continue
		}
		calls[s.name]++
		now := bytesOf(t, p.d)
		wrote, at := now, m.log
		if s.name != "Image" { // which trims what was there before
			wrote, at = now[len(before):], m.log[len(old.log):]
		}
		for keep := range len(wrote) + 1 {
			d := disk.New()
			d.Append([]byte(before + wrote[:keep]))
			q, e := opened(d)
			if e != api.OK {
				t.Fatalf("Open = %d", e)
			}
			whole := len(at)
			for whole > 0 && frames(at[:whole]) > keep {
				whole--
			}
			x := newModel()
			x.log = slices.Concat(old.log, at[:whole])
			x.left(len(x.log))
			x.checkRows(t, q.s, spaces()...)
			checkBetween(t, s, q.s, old, m, keep == len(wrote))
		}
	}
	for _, name := range []string{"Prepare", "Commit", "Abort", "Image"} {
		if calls[name] < 50 {
			t.Errorf("only %d of %s", calls[name], name)
		}
	}
}

// checkBetween fails unless the rows after a loss of power are those ahead of a call
// or, where it may have been the commit in progress, those behind it.
func checkBetween(t *testing.T, s step, q *shard.Shard, before, after *model, done bool) {
	t.Helper()
	rows := map[place]string{}
	for _, space := range spaces() {
		for _, c := range texts(space, q.Rows(space)) {
			c.apply(rows)
		}
	}
	old, now := maps.Equal(rows, before.rows), maps.Equal(rows, after.rows)
	if !now && (done || !old) {
		t.Fatalf("in %v, done: %v: rows are %q", s, done, rows)
	}
}

// bytesOf are those of a disk.
func bytesOf(t *testing.T, d *disk.Disk) string {
	t.Helper()
	b, e := d.Read(d.Begin(), d.End())
	if e != api.OK {
		t.Fatalf("Read = %d", e)
	}
	return string(b)
}

// P10.2: those that were aborted are prepared again, or unknown, by how many bytes
// are left; whoever synced the log afterwards made them unknown.
func TestAbortedAgain(t *testing.T) {
	for _, later := range []string{"", "Prepare", "Commit", "Image"} {
		for keep := range 21 {
			m, p := fresh(t)
			m.follow(t, p, begun(1, put("t", "a", "x"))...)
			m.follow(t, p, begun(2, put("t", "b", "y"), drop("t", "b"))...)
			m.follow(t, p, begun(3, put("t", "c", ""))...)
			m.follow(t, p, on("Prepare", 1), on("Prepare", 2), on("Abort", 2), on("Abort", 1))
			if later != "" {
				m.follow(t, p, on(later, 3))
			}
			m.follow(t, p, power(keep))
			m.check(t, p)
			want := [][]int{{1, 2}, {1}, nil}[keep/10]
			if later != "" {
				want = nil
			}
			got := slices.DeleteFunc(p.s.Doubts(), func(tx int) bool { return tx == 3 })
			if !slices.Equal(got, want) {
				t.Errorf("after %q and %d bytes: Doubts = %v, not %v", later, keep, got, want)
			}
		}
	}
}
