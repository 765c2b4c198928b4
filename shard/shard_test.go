package shard_test

import (
	"fmt"
	"math"
	"math/rand/v2"
	"slices"
	"strings"
	"sync"
	"testing"

	"frankpledge/api"
	"frankpledge/disk"
	"frankpledge/shard"
	"frankpledge/table"
	"frankpledge/wal"
)

// made is a shard after some steps, all of which must be OK.
func made(t *testing.T, l ...step) (*model, *pair) {
	t.Helper()
	m, p := fresh(t)
	for _, s := range l {
		if e := m.follow(t, p, s); e != api.OK {
			t.Fatalf("%v = %d", s, e)
		}
	}
	return m, p
}

// several are lists of steps, one behind the other.
func several(l ...[]step) []step { return slices.Concat(l...) }

// usual is a shard with committed rows, and with transactions 1 (active), 2
// (prepared), 3 (active, without changes) and 4 (prepared, without changes).
func usual(t *testing.T) (*model, *pair) {
	t.Helper()
	return made(t, several(
		begun(9, put("t", "a", "one"), put("t", "b", "two"), put("u", "a", "")), []step{on("Commit", 9)},
		begun(1, put("t", "c", "mine"), drop("t", "a")),
		begun(2, put("t", "d", "doubt"), put("t", "b", "other")), []step{on("Prepare", 2)},
		begun(3), begun(4), []step{on("Prepare", 4)},
	)...)
}

// P10.1 (S2, S3): the records of the log, byte by byte.
func TestLogByHand(t *testing.T) {
	_, p := made(t, several(
		begun(3, put("t", "k", "r"), drop("t", "k"), put("", "", "")), []step{on("Commit", 3)},
		begun(64), []step{on("Prepare", 64), on("Abort", 64)},
		begun(0, put("u\xff", "\x00", letters(201))), []step{on("Prepare", 0), on("Commit", 0)},
	)...)
	want := []string{
		"\x02\x02\x00\x02\x06",
		"\x05\x02\x02\x02\x06\x04\x02t\x05\x02k\x05\x02r",
		"\x04\x02\x04\x02\x06\x04\x02t\x05\x02k",
		"\x04\x02\x02\x02\x06\x04\x00\x05\x00",
		"\x02\x02\x08\x02\x06",
		"\x02\x02\x00\x02\x80\x01",
		"\x02\x02\x06\x02\x80\x01",
		"\x02\x02\x0a\x02\x80\x01",
		"\x02\x02\x00\x02\x00",
		"\x06\x02\x02\x02\x00\x04\x04u\xff\x05\x02\x00\x05\x90\x03" + letters(200) + "\x05\x02" + letters(201)[200:],
		"\x02\x02\x06\x02\x00",
		"\x02\x02\x08\x02\x00",
	}
	if got := told(p.d); !slices.Equal(got, want) {
		t.Errorf("the log is %q, not %q", got, want)
	}
	if e := p.s.Image(); e != api.OK {
		t.Fatalf("Image = %d", e)
	}
	want = []string{
		"\x02\x02\x0c\x02\x00",
		"\x04\x02\x0e\x02\x00\x04\x00\x05\x00",
		"\x06\x02\x0e\x02\x00\x04\x04u\xff\x05\x02\x00\x05\x90\x03" + letters(200) + "\x05\x02" + letters(201)[200:],
		"\x02\x02\x10\x02\x00",
	}
	if got := told(p.d); !slices.Equal(got, want) {
		t.Errorf("the snapshot is %q, not %q", got, want)
	}
}

// told are the records on a disk.
func told(d *disk.Disk) []string {
	var l []string
	w, _ := wal.Open(d.Power(d.End() - d.Safe()))
	for _, n := range w.Numbers() {
		b, _ := w.Read(n)
		l = append(l, string(b))
	}
	return l
}

// P10.1 (S1): numbers of transactions.
func TestBegin(t *testing.T) {
	for _, tx := range []int{0, 1, 15, 1 << 32, api.MaxNumber - 1, api.MaxNumber} {
		m, p := made(t, on("Begin", tx))
		if e := m.follow(t, p, on("Begin", tx)); e != api.ErrUnique {
			t.Errorf("Begin(%d) again = %d", tx, e)
		}
		m.follow(t, p, all(tx, put("t", "k", "r"))...)
		m.follow(t, p, on("Prepare", tx))
		if e := m.follow(t, p, on("Begin", tx)); e != api.ErrUnique {
			t.Errorf("Begin(%d) of a prepared one = %d", tx, e)
		}
		m.follow(t, p, power(0), on("Begin", tx), on("Abort", tx), on("Begin", tx), on("Commit", tx), on("Begin", tx), on("Abort", tx), on("Begin", tx))
		m.checkTx(t, p.s, tx, "t")
	}
	for _, tx := range []int{-1, api.MaxNumber + 1, math.MaxInt, math.MinInt, -api.MaxNumber} {
		m, p := usual(t)
		for _, s := range []step{on("Begin", tx), putting(tx, put("t", "k", "r")), dropping(tx, drop("t", "a")), backTo(tx, 0), on("Prepare", tx), on("Commit", tx), on("Abort", tx), on("Begin", tx)} {
			want := api.ErrNoTx
			if s.name == "Begin" {
				want = api.ErrArg
			}
			if e := m.follow(t, p, s); e != want {
				t.Errorf("%v = %d", s, e)
			}
		}
		m.check(t, p)
	}
}

// P10.1 (S1): which error comes first.
func TestErrors(t *testing.T) {
	long, key := letters(33), letters(201)
	m, p := usual(t)
	for _, x := range []struct {
		step
		want api.Errno
	}{
		{putting(7, put("t", "k", "r")), api.ErrNoTx}, {putting(7, put(long, key, letters(2001))), api.ErrNoTx},
		{putting(2, put("t", "k", "r")), api.ErrDoubt}, {putting(2, put(long, key, letters(2001))), api.ErrDoubt},
		{putting(1, put(long, "k", "r")), api.ErrArg}, {putting(1, put("t", key, "r")), api.ErrArg}, {putting(1, put("t", "k", letters(2001))), api.ErrArg},
		{dropping(7, drop("t", "a")), api.ErrNoTx}, {dropping(7, drop(long, key)), api.ErrNoTx},
		{dropping(2, drop("t", "b")), api.ErrDoubt}, {dropping(2, drop("t", "x")), api.ErrDoubt}, {dropping(2, drop(long, "a")), api.ErrDoubt},
		{dropping(1, drop(long, "a")), api.ErrArg}, {dropping(1, drop("t", key)), api.ErrArg}, {dropping(1, drop(long, key)), api.ErrArg},
		{dropping(1, drop("t", "a")), api.ErrNoRow}, {dropping(1, drop("t", "d")), api.ErrNoRow}, {dropping(3, drop("t", "c")), api.ErrNoRow}, {dropping(1, drop("", "b")), api.ErrNoRow}, {dropping(1, drop("tt", "b")), api.ErrNoRow},
		{backTo(7, -1), api.ErrNoTx}, {backTo(7, 0), api.ErrNoTx}, {backTo(2, -1), api.ErrDoubt}, {backTo(2, 0), api.ErrDoubt}, {backTo(4, 0), api.ErrDoubt}, {backTo(1, -1), api.ErrArg}, {backTo(1, 3), api.ErrArg}, {backTo(3, 1), api.ErrArg},
		{backTo(1, math.MaxInt), api.ErrArg}, {backTo(1, math.MinInt), api.ErrArg}, {backTo(1, 2), api.OK}, {backTo(3, 0), api.OK},
		{on("Prepare", 7), api.ErrNoTx}, {on("Prepare", 2), api.ErrDoubt}, {on("Prepare", 4), api.ErrDoubt},
		{on("Commit", 7), api.ErrNoTx}, {on("Abort", 7), api.ErrNoTx}, {on("Commit", 9), api.ErrNoTx},
	} {
		if e := m.follow(t, p, x.step); e != x.want {
			t.Errorf("%v = %d, not %d", x.step, e, x.want)
		}
		m.check(t, p)
	}
}

// P10.1 (S1): Get and Range of what a transaction doesn't see.
func TestGetErrors(t *testing.T) {
	m, p := usual(t)
	for _, tx := range []int{7, 9, -1, math.MinInt} {
		if b, e := p.s.Get(tx, "t", []byte("a")); len(b) != 0 || e != api.ErrNoTx {
			t.Errorf("Get(%d) = %q, %d", tx, b, e)
		}
		if l, e := p.s.Range(tx, "t", nil, nil); len(l) != 0 || e != api.ErrNoTx {
			t.Errorf("Range(%d) = %v, %d", tx, l, e)
		}
	}
	for _, at := range []place{{"t", "x"}, {"", "a"}, {"T", "a"}, {"t", ""}, {"t", "a\x00"}, {letters(33), "a"}, {"t", letters(5000)}} {
		for _, tx := range []int{1, 2, 3, 4} {
			m.checkGet(t, p.s, tx, at)
			if _, e := p.s.Get(tx, at.space, []byte(at.key)); e != api.ErrNoRow {
				t.Errorf("Get(%d, %q) = %d", tx, at, e)
			}
		}
	}
	if l, e := p.s.Range(1, letters(33), nil, nil); len(l) != 0 || e != api.OK {
		t.Errorf("Range = %v, %d", l, e)
	}
	if b, e := p.s.Get(3, "u", []byte("a")); len(b) != 0 || e != api.OK {
		t.Errorf("Get of an empty row = %q, %d", b, e)
	}
}

// P10.1 (S1, S2): names, keys and rows of each length that matters.
func TestLengths(t *testing.T) {
	for _, n := range []int{0, 1, 31, 32, 33, 63, 64, 100, 199, 200, 201, 255, 256, 399, 400, 401, 1799, 1800, 1801, 1999, 2000, 2001, 2200, 2400, 2401, 5000, 70000} {
		for _, c := range []change{put(letters(n), "k", "r"), put("t", letters(n), "r"), put("t", "k", letters(n)), put(letters(min(n, 32)), letters(min(n, 200)), letters(n))} {
			m, p := made(t, on("Begin", 1))
			m.follow(t, p, putting(1, c), dropping(1, c), putting(1, c))
			m.follow(t, p, on("Prepare", 1))
			m.checkTx(t, p.s, 1, c.space)
			m.follow(t, p, on("Commit", 1), step{name: "Image"}, power(0))
			m.checkRows(t, p.s, c.space)
			m.checkLog(t, p.d)
		}
	}
}

// P10.1 (S1), P10.3: what a transaction sees are the committed rows of now, and its
// own changes, in whatever order they come.
func TestSees(t *testing.T) {
	m, p := usual(t)
	script := several(
		all(1, put("t", "c", "again"), drop("t", "c"), drop("t", "b"), put("t", "b", "")),
		all(3, drop("t", "b"), put("t", "a", "three"), put("u", "c", "three")),
		[]step{on("Commit", 2)},
		all(1, drop("t", "d"), put("t", "a", "new")),
		[]step{on("Abort", 3), on("Begin", 2)},
		all(2, drop("t", "a"), drop("t", "d"), drop("u", "a")),
		[]step{on("Prepare", 1), on("Commit", 2), on("Begin", 5), on("Commit", 1), on("Commit", 5)},
	)
	for _, s := range script {
		if e := m.follow(t, p, s); e != api.OK {
			t.Fatalf("%v = %d", s, e)
		}
		m.check(t, p)
		for _, tx := range []int{4, 5, 9} {
			m.checkTx(t, p.s, tx, "t", "u")
		}
	}
	if got := rowsOf(p.s); got != "a=new,b=" {
		t.Errorf("rows %q", got)
	}
}

// P10.1 (S1): all ranges, with committed rows and own changes at their ends.
func TestRange(t *testing.T) {
	var committed, own []change
	for i, k := range []string{"", "\x00", "\x00\x00", "a", "a\x00", "ab", "b", "\xff", "\xff\xff"} {
		for j, space := range []string{"t", "u"} {
			if (i+j)%3 > 0 {
				committed = append(committed, put(space, k, "old"+k))
			}
			if (i+j)%3 > 1 {
				own = append(own, drop(space, k))
			}
			if (i+j)%2 > 0 {
				own = append(own, put(space, k, "new"+k))
			}
		}
	}
	m, p := made(t, several(begun(0, committed...), []step{on("Commit", 0)}, begun(1, own...), begun(2))...)
	for _, from := range append(keys(), "A", "aa", "c", "\xfe", "\xff\xff\xff") {
		for _, to := range append(keys(), "A", "aa", "c", "\xfe", "\xff\xff\xff") {
			for tx := range 4 {
				for _, space := range []string{"t", "u", "v"} {
					l, e := p.s.Range(tx, space, []byte(from), []byte(to))
					want, fault := between(m.sees(tx), space, from, to), api.OK
					if tx == 0 || tx == 3 {
						want, fault = nil, api.ErrNoTx
					}
					if got := texts(space, l); e != fault || !slices.Equal(got, want) {
						t.Fatalf("Range(%d, %q, %q, %q) = %v, %d, not %v", tx, space, from, to, got, e, want)
					}
				}
			}
		}
	}
}

// P10.1 (S1): Back to each mark, and on from there.
func TestBack(t *testing.T) {
	changes := []change{put("t", "a", "1"), put("t", "b", "1"), drop("t", "a"), put("t", "a", "2"), put("t", "a", "3"), drop("t", "b"), put("u", "a", "1"), drop("t", "a")}
	for mark := range len(changes) + 1 {
		for last := range mark + 1 {
			m, p := made(t, several(begun(9, put("t", "a", "0")), []step{on("Commit", 9)}, begun(1, changes...))...)
			m.follow(t, p, backTo(1, mark), backTo(1, mark+1), backTo(1, last), backTo(1, mark))
			m.check(t, p)
			m.follow(t, p, all(1, put("t", "z", "new"), drop("t", "a"), drop("t", "b"))...)
			m.check(t, p)
			m.follow(t, p, on([]string{"Commit", "Prepare"}[mark%2], 1), power(0))
			m.check(t, p)
		}
	}
}

// P10.1 (S1): what is taken back doesn't come again with the changes that follow.
func TestBackByHand(t *testing.T) {
	_, p := made(t, several(begun(1, put("t", "a", "1"), put("t", "b", "2"), put("t", "c", "3")), []step{backTo(1, 1)}, all(1, put("t", "d", "4")), []step{on("Commit", 1)})...)
	if got := rowsOf(p.s); got != "a=1,d=4" {
		t.Errorf("rows %q", got)
	}
}

// P10.1 (S2): what is durable after each of the calls, and that the rows change by
// Commit alone.
func TestEnds(t *testing.T) {
	changes := []change{put("t", "a", "new"), drop("t", "b"), put("u", "b", "new"), drop("t", "a"), put("t", "a", "newer")}
	for _, end := range [][]string{{"Commit"}, {"Abort"}, {"Prepare"}, {"Prepare", "Commit"}, {"Prepare", "Abort"}, {"Prepare", "Open", "Commit"}, {"Prepare", "Power", "Abort"}} {
		for n := range len(changes) + 1 {
			m, p := made(t, several(begun(9, put("t", "a", "old"), put("t", "b", "old")), []step{on("Commit", 9)}, begun(1, changes[:n]...), begun(2, put("t", "z", "")))...)
			for _, name := range end {
				if e := m.follow(t, p, on(name, 1)); e != api.OK {
					t.Fatalf("%s = %d", name, e)
				}
				m.check(t, p)
			}
			m.follow(t, p, on("Prepare", 1), on("Commit", 1), on("Abort", 1), on("Begin", 1))
			m.check(t, p)
			m.follow(t, p, power(-1))
			m.check(t, p)
		}
	}
}

// P10.1 (S3): an image of many rows and doubts, which trims all that is ahead of it.
func TestImage(t *testing.T) {
	var rows []change
	for i, space := range []string{"", "t", "\xff", "tt", "\x00", "u", letters(32)} {
		for j := range 50 * (i % 3) {
			rows = append(rows, put(space, fmt.Sprint(j), letters(j*40%2001)))
		}
	}
	m, p := made(t, several(begun(100, rows...), []step{on("Commit", 100)}, begun(30, drop("t", "7"), put("t", "8", "doubt")), begun(2, put("v", "", "")), begun(11), begun(5, put("t", "1", "active")),
		[]step{on("Prepare", 30), on("Prepare", 2), on("Prepare", 11)})...)
	for i, s := range []step{{name: "Image"}, {name: "Image"}, on("Abort", 2), {name: "Image"}, on("Commit", 30), power(0), {name: "Image"}, {name: "Open"}, on("Abort", 11), power(0), {name: "Image"}, power(0)} {
		if e := m.follow(t, p, s); e != api.OK {
			t.Fatalf("%v = %d", s, e)
		}
		m.checkLog(t, p.d)
		m.checkRows(t, p.s, "", "t", "\xff", "tt", "\x00", "u", "v", letters(32))
		for _, tx := range []int{2, 5, 11, 30} {
			m.checkTx(t, p.s, tx, "t", "v")
		}
		if s.name == "Image" && m.log[0].kind != 6 {
			t.Errorf("step %d: the log begins with %v", i, m.log[0])
		}
	}
}

// P10.1 (S3): an image of nothing.
func TestImageEmpty(t *testing.T) {
	m, p := made(t, step{name: "Image"})
	m.check(t, p)
	m.follow(t, p, begun(1, put("t", "a", "x"))...)
	m.follow(t, p, on("Commit", 1))
	m.follow(t, p, begun(1, drop("t", "a"))...)
	m.follow(t, p, on("Commit", 1), step{name: "Image"})
	m.check(t, p)
	if n := len(told(p.d)); n != 2 {
		t.Errorf("%d records", n)
	}
	m.follow(t, p, power(0))
	m.check(t, p)
}

// fill lays records without an effect on the disk of a shard, and leaves so much room.
func fill(t *testing.T, m *model, p *pair, room int) {
	t.Helper()
	w, _ := wal.Open(p.d)
	m.safe = len(m.log)
	lay := func(r rec) {
		if _, e := w.Append([]byte(r.told())); e != api.OK || !m.lay(r) {
			t.Fatalf("Append = %d", e)
		}
	}
	big, small := rec{7, 0, put("t", "a", letters(2000))}, plain(8, 0)
	for api.MaxDisk-m.used-room > 5000 {
		lay(big)
	}
	left := api.MaxDisk - m.used - room
	lay(rec{7, 0, put("", letters((left-14)%10), "")})
	for left = api.MaxDisk - m.used - room; left > 0; left -= 10 {
		lay(small)
	}
	if p.d.End()-p.d.Begin() != api.MaxDisk-room || left != 0 {
		t.Fatalf("%d bytes are on the disk, %d are left", p.d.End()-p.d.Begin(), left)
	}
}

// P10.1 (S2, S3): just as much room as the frames need, and less: then nothing is
// logged, and nothing changes.
func TestFull(t *testing.T) {
	for _, s := range []step{on("Prepare", 1), on("Commit", 1), on("Commit", 2), on("Abort", 2), on("Prepare", 3), on("Commit", 3), on("Commit", 4), on("Abort", 4), {name: "Image"}} {
		old, _ := usual(t)
		before := old.used
		old.do(s)
		need := old.used - before
		if s.name == "Image" {
			need = old.used
		}
		for _, room := range []int{0, need - 10, need - 1, need, need + 1} {
			m, p := usual(t)
			fill(t, m, p, max(room, 0))
			bytes := bytesOf(t, p.d)
			want := api.OK
			if room < need {
				want = api.ErrFull
			}
			if e := m.follow(t, p, s); e != want {
				t.Errorf("%v with room for %d of %d bytes = %d", s, room, need, e)
			}
			if want == api.ErrFull && bytesOf(t, p.d) != bytes {
				t.Errorf("%v with room for %d of %d bytes changes the disk", s, room, need)
			}
			for tx := range 5 {
				m.checkTx(t, p.s, tx, "t", "u")
			}
			m.checkRows(t, p.s, "t", "u")
			m.checkLog(t, p.d)
			m.follow(t, p, on("Abort", 1), on("Abort", 3), on("Prepare", 7), power(0))
			m.checkRows(t, p.s, "t", "u")
		}
	}
}

// P10.1 (S2): which error comes first on a full disk; and what needs no room.
func TestFullErrors(t *testing.T) {
	m, p := usual(t)
	fill(t, m, p, 0)
	for _, x := range []struct {
		step
		want api.Errno
	}{
		{on("Prepare", 7), api.ErrNoTx}, {on("Prepare", 2), api.ErrDoubt}, {on("Commit", 7), api.ErrNoTx}, {on("Abort", 7), api.ErrNoTx},
		{on("Prepare", 1), api.ErrFull}, {on("Commit", 1), api.ErrFull}, {on("Commit", 2), api.ErrFull}, {on("Abort", 2), api.ErrFull}, {on("Image", 0), api.ErrFull},
		{on("Begin", 7), api.OK}, {putting(7, put("t", "a", "x")), api.OK}, {dropping(7, drop("t", "a")), api.OK}, {backTo(7, 1), api.OK}, {on("Prepare", 7), api.ErrFull}, {on("Abort", 7), api.OK}, {on("Abort", 3), api.OK},
	} {
		if e := m.follow(t, p, x.step); e != x.want {
			t.Errorf("%v = %d, not %d", x.step, e, x.want)
		}
	}
	m.checkTx(t, p.s, 7, "t")
	m.checkRows(t, p.s, "t", "u")
}

// P10.1 (S2): what a disk never has room for.
func TestTooMuch(t *testing.T) {
	m, p := made(t, begun(1)...)
	for i := range 600 {
		p.do(putting(1, put("t", fmt.Sprint(i), letters(2000))))
	}
	for _, name := range []string{"Prepare", "Commit", "Prepare"} {
		if e := p.do(on(name, 1)); e != api.ErrFull || p.d.End() != 0 || p.s.Mark(1) != 600 || len(p.s.Doubts()) != 0 || len(p.s.Rows("t")) != 0 {
			t.Errorf("%s = %d: %d bytes, %d changes", name, e, p.d.End(), p.s.Mark(1))
		}
	}
	if e := p.s.Abort(1); e != api.OK || p.s.Mark(1) != 0 {
		t.Errorf("Abort = %d", e)
	}
	m.do(on("Abort", 1))
	m.check(t, p)
}

// P10.1, P1: no shard.
func TestNil(t *testing.T) {
	var none *shard.Shard
	for _, s := range []*shard.Shard{none, {}} {
		p := &pair{nil, s}
		for _, tx := range append(numbers(), math.MaxInt, math.MinInt) {
			for _, x := range []step{on("Begin", tx), putting(tx, put("t", "k", "r")), putting(tx, put(letters(33), "", "")), dropping(tx, drop("t", "k")), backTo(tx, 0), backTo(tx, -1), on("Prepare", tx), on("Commit", tx), on("Abort", tx), on("Image", tx)} {
				if e := p.do(x); e != api.ErrArg {
					t.Errorf("%v = %d", x, e)
				}
			}
			b, e := s.Get(tx, "t", []byte("k"))
			l, f := s.Range(tx, "t", nil, nil)
			if len(b) != 0 || len(l) != 0 || e != api.ErrArg || f != api.ErrArg {
				t.Errorf("Get, Range = %q, %d, %v, %d", b, e, l, f)
			}
			if s.Mark(tx) != 0 || len(s.Changes(tx)) != 0 {
				t.Errorf("Mark, Changes = %d, %v", s.Mark(tx), s.Changes(tx))
			}
		}
		if len(s.Doubts()) != 0 || len(s.Rows("t")) != 0 {
			t.Errorf("Doubts, Rows = %v, %v", s.Doubts(), s.Rows("t"))
		}
	}
}

// P10.1 to P10.3: all short lists of steps, from several shards on.
func TestAllShortHistories(t *testing.T) {
	steps := several(
		all(1, put("t", "a", "x"), drop("t", "a")), all(2, put("t", "a", "y"), drop("t", "b")),
		[]step{on("Begin", 1), backTo(1, 1), on("Prepare", 1), on("Commit", 1), on("Abort", 1), on("Prepare", 2), on("Commit", 2), on("Abort", 2), {name: "Image"}, power(0), power(-11), power(19)},
	)
	starts := [][]step{
		nil,
		several(begun(1, put("t", "a", "1"), put("t", "b", "1")), begun(2)),
		several(begun(1, put("t", "b", "1")), []step{on("Prepare", 1)}, begun(2, put("t", "a", "2")), []step{on("Prepare", 2)}),
		several(begun(1, put("t", "a", "1"), put("t", "b", "")), []step{on("Commit", 1), on("Begin", 1)}, begun(2, drop("t", "b"))),
	}
	count := 0
	for _, start := range starts {
		histories(steps, 3, func(l []step) {
			m, p := made(t, start...)
			defer func() {
				if t.Failed() {
					t.Logf("after %v, %v", start, l)
				}
			}()
			m.follow(t, p, l...)
			m.checkLog(t, p.d)
			m.checkRows(t, p.s, "t", "u")
			for tx := range 4 {
				m.checkTx(t, p.s, tx, "t")
			}
			m.checkGet(t, p.s, 1, place{"t", "a"})
			m.checkGet(t, p.s, 2, place{"t", "b"})
			count++
		})
	}
	if count < 15000 {
		t.Errorf("only %d histories", count)
	}
}

// P10.1 to P10.3: long lists of steps.
func TestAnyHistories(t *testing.T) {
	r := rand.New(rand.NewPCG(7, 8))
	for _, c := range []struct{ txs, most int }{{2, 3}, {3, 300}, {6, 5}, {20, 2002}} {
		for range 6 {
			m, p := fresh(t)
			for i := range 800 {
				m.follow(t, p, anyStep(r, c.txs, c.most))
				if i%20 == 0 || c.txs < 3 {
					m.check(t, p)
				}
			}
			m.check(t, p)
		}
	}
}

// P10.1, P10.2: disks that become full, and get room by images.
func TestFullHistories(t *testing.T) {
	r := rand.New(rand.NewPCG(9, 10))
	full := map[string]int{}
	var rows []change
	for i := range 300 {
		rows = append(rows, put(spaces()[i%3], fmt.Sprint(i/3), letters(1500+i)))
	}
	for range 3 {
		m, p := made(t, append(begun(0, rows...), on("Commit", 0))...)
		for i := range 1500 {
			s := anyStep(r, 8, 20)
			switch s.name {
			case "Put":
				s.key, s.row = fmt.Sprint(r.IntN(200)), letters(1000+r.IntN(1001))
				for range 15 {
					m.follow(t, p, s)
					s.key = fmt.Sprint(r.IntN(200))
				}
			case "Image", "Abort", "Back", "Power":
				if r.IntN(8) > 0 {
					continue
				}
			}
			if m.follow(t, p, s) == api.ErrFull {
				full[s.name]++
			}
			if i%250 == 0 {
				m.checkLog(t, p.d)
				m.checkRows(t, p.s, spaces()...)
				m.checkTx(t, p.s, i%8, spaces()...)
			}
		}
	}
	for _, name := range []string{"Prepare", "Commit", "Image"} {
		if full[name] < 5 {
			t.Errorf("%s is only %d times full", name, full[name])
		}
	}
}

// P10.3: nothing that a transaction does is seen by others, until it commits.
func TestIsolation(t *testing.T) {
	r := rand.New(rand.NewPCG(11, 12))
	for range 200 {
		_, p := made(t, several(begun(0, put("t", "a", "0"), put("u", "b", "0")), []step{on("Commit", 0)}, begun(1), begun(2, put("t", "b", "2")), begun(3), all(3, put("t", "\xff", "3"), drop("t", "a")), []step{on("Prepare", 3)})...)
		seen := func() string {
			var l []any
			for _, tx := range []int{2, 3} {
				for _, space := range spaces() {
					rows, _ := p.s.Range(tx, space, nil, nil)
					row, e := p.s.Get(tx, space, []byte("a"))
					l = append(l, rows, row, e, p.s.Rows(space))
				}
				l = append(l, p.s.Changes(tx), p.s.Mark(tx))
			}
			return fmt.Sprint(l)
		}
		before := seen()
		for range 20 {
			s := anyStep(r, 1, 5)
			s.tx = 1
			if s.name == "Power" || s.name == "Open" || s.name == "Commit" {
				continue
			}
			p.do(s)
			if now := seen(); now != before {
				t.Fatalf("after %v, others see %s, not %s", s, now, before)
			}
		}
	}
}

// Rule 4: arguments are neither changed nor kept, nor reached behind their end.
func TestArguments(t *testing.T) {
	m, p := made(t, begun(1)...)
	for i := range 100 {
		key, row := []byte(fmt.Sprintf("%03dbehind", i)), []byte(letters(300)+"behind")
		c := put("t", fmt.Sprintf("%03d", i), letters(300))
		if e := p.s.Put(1, "t", key[:3], row[:300]); e != m.do(putting(1, c)) {
			t.Fatalf("Put = %d", e)
		}
		p.s.Get(1, "t", key[:3])
		p.s.Range(1, "t", key[:3], row[:1])
		if i%3 == 0 {
			if e := p.s.Drop(1, "t", key[:3]); e != m.do(dropping(1, drop("t", c.key))) {
				t.Fatalf("Drop = %d", e)
			}
		}
		if string(key) != c.key+"behind" || string(row) != c.row+"behind" {
			t.Fatalf("arguments are %q, %q", key, row)
		}
		clear(key)
		clear(row)
	}
	m.checkTx(t, p.s, 1, "t")
	same := []byte("same")
	p.s.Put(1, "t", same[:2], same)
	m.do(putting(1, put("t", "sa", "same")))
	copy(same, "xxxx")
	m.checkTx(t, p.s, 1, "t")
	m.follow(t, p, on("Commit", 1))
	m.checkRows(t, p.s, "t")
	m.checkLog(t, p.d)
}

// spoil overwrites bytes, with all the room behind them.
func spoil(l ...[]byte) {
	for _, b := range l {
		for i := range b[:cap(b)] {
			b[:cap(b)][i] = '!'
		}
	}
}

// Rule 4: answers are new memory, with all the room behind them.
func TestNewMemory(t *testing.T) {
	m, p := usual(t)
	for range 2 {
		for tx := range 5 {
			for _, c := range p.s.Changes(tx) {
				spoil(c.Key)
				if c.Row != nil && strings.Contains(string(c.Row), "!") {
					t.Fatalf("the row is %q", c.Row)
				}
				spoil(c.Row)
			}
			clear(p.s.Changes(tx))
			for _, space := range []string{"t", "u"} {
				l, _ := p.s.Range(tx, space, nil, nil)
				spoilEntries(t, l)
				spoilEntries(t, p.s.Rows(space))
				for _, k := range keys() {
					b, _ := p.s.Get(tx, space, []byte(k))
					spoil(b)
				}
			}
		}
		l := p.s.Doubts()
		clear(l[:cap(l)])
		m.check(t, p)
		m.follow(t, p, power(0))
	}
	m.follow(t, p, on("Commit", 2), power(0))
	m.check(t, p)
}

// spoilEntries overwrites entries, and fails if they share memory.
func spoilEntries(t *testing.T, l []table.Entry) {
	t.Helper()
	for i, x := range l {
		if strings.Contains(string(x.Key)+string(x.Row), "!") {
			t.Fatalf("entry %d is %q, %q", i, x.Key, x.Row)
		}
		spoil(x.Key)
		if strings.Contains(string(x.Row), "!") {
			t.Fatalf("the row of entry %d is %q", i, x.Row)
		}
		spoil(x.Row)
	}
	clear(l[:cap(l)])
}

// Rule 4: later calls leave earlier answers as they were.
func TestAnswersStay(t *testing.T) {
	m, p := usual(t)
	row, _ := p.s.Get(1, "t", []byte("c"))
	l, _ := p.s.Range(1, "t", nil, nil)
	rows, changes, doubts := p.s.Rows("t"), p.s.Changes(1), p.s.Doubts()
	before := fmt.Sprint(row, l, rows, changes, doubts)
	m.follow(t, p, all(1, put("t", "c", "XXXX"), put("t", "b", "X"), drop("t", "c"))...)
	m.follow(t, p, backTo(1, 1))
	m.follow(t, p, all(1, put("t", "c", "YYYY"), put("t", "a", "YYY"))...)
	m.follow(t, p, on("Commit", 2), on("Commit", 1), on("Abort", 4), step{name: "Image"})
	if now := fmt.Sprint(row, l, rows, changes, doubts); now != before {
		t.Errorf("answers are changed from %s to %s", before, now)
	}
}

// A shard that power took away doesn't change the one that was opened for it.
func TestShardsApart(t *testing.T) {
	m, p := usual(t)
	q := &pair{p.d, p.s}
	m.follow(t, p, power(0))
	for _, s := range several(all(1, put("t", "a", "x")), []step{on("Commit", 1), on("Commit", 2), on("Abort", 4), {name: "Image"}}) {
		if e := q.do(s); e != api.OK {
			t.Errorf("%v = %d", s, e)
		}
	}
	m.check(t, p)
}

// Asking a shard for what it has changes nothing, also if several ask at a time.
func TestTellingChangesNothing(t *testing.T) {
	m, p := usual(t)
	var wait sync.WaitGroup
	for range 4 {
		wait.Go(func() {
			for tx := range 200 {
				p.s.Mark(tx % 6)
				p.s.Changes(tx % 6)
				p.s.Get(tx%6, "t", []byte("a"))
				p.s.Range(tx%6, "none", nil, nil)
				p.s.Range(tx%6, "t", []byte("b"), []byte("a"))
				p.s.Rows("u")
				p.s.Doubts()
			}
		})
	}
	wait.Wait()
	m.check(t, p)
}

// P1: many transactions with many changes answer in time.
func TestManyChanges(t *testing.T) {
	_, p := fresh(t)
	const count = 20000
	p.s.Begin(1)
	for i := range count {
		p.s.Put(1, "t", []byte(fmt.Sprintf("%05d", i*7%count)), nil)
	}
	if e := p.s.Commit(1); e != api.OK {
		t.Fatalf("Commit = %d", e)
	}
	p.s.Begin(2)
	for i := range count {
		if e := p.s.Drop(2, "t", []byte(fmt.Sprintf("%05d", i))); e != api.OK {
			t.Fatalf("Drop %d = %d", i, e)
		}
	}
	p.s.Back(2, count-3)
	l, e := p.s.Range(2, "t", nil, nil)
	if len(l) != 3 || e != api.OK || len(p.s.Rows("t")) != count {
		t.Errorf("Range = %d entries, %d", len(l), e)
	}
	for tx := range 3000 {
		if e := p.s.Begin(10 + tx); e != api.OK {
			t.Fatalf("Begin = %d", e)
		}
		p.s.Prepare(10 + tx)
	}
	x, e := opened(p.d.Power(0))
	if e != api.OK || len(x.s.Doubts()) != 3000 || len(x.s.Rows("t")) != count {
		t.Errorf("%d in doubt, %d rows", len(x.s.Doubts()), len(x.s.Rows("t")))
	}
}

// P1: disks that others change meanwhile.
func TestChangedDisks(t *testing.T) {
	r := rand.New(rand.NewPCG(13, 14))
	for range 300 {
		_, p := usual(t)
		for range 30 {
			switch n := p.d.Begin() + r.IntN(p.d.End()-p.d.Begin()+1); r.IntN(6) {
			case 0:
				p.d.Cut(n)
			case 1:
				p.d.Drop(n)
			case 2:
				p.d.Append([]byte(letters(r.IntN(50))))
			case 3:
				if q, e := opened(p.d); e != api.OK || q.s == nil {
					t.Fatalf("Open = %d", e)
				}
			}
			p.do(anyStep(r, 5, 5))
			p.s.Get(1, "t", []byte("a"))
			p.s.Range(2, "t", nil, nil)
		}
	}
}

// answers are those of a history, as text.
func answers() []string {
	r := rand.New(rand.NewPCG(15, 16))
	p, _ := opened(disk.New())
	var l []string
	for range 1500 {
		s := anyStep(r, 5, 50)
		e := p.do(s)
		rows, f := p.s.Range(s.tx, "t", nil, nil)
		l = append(l, fmt.Sprint(e, f, rows, p.s.Doubts(), p.s.Changes(s.tx), p.s.Rows("t"), p.d.End()))
	}
	return l
}

// P1, P2: no call panics, and calls on other shards that came before, or go on
// meanwhile, change no answer.
func TestSameAgain(t *testing.T) {
	first := answers()
	again := make([][]string, 4)
	var wait sync.WaitGroup
	for i := range again {
		wait.Go(func() { again[i] = answers() })
	}
	wait.Wait()
	for _, l := range again {
		if !slices.Equal(l, first) {
			t.Error("the same calls have other answers")
		}
	}
}

// The example of README.md.
func TestReadmeExample(t *testing.T) {
	d := disk.New()
	s, e := shard.Open(d)
	s.Begin(1)
	s.Put(1, "t", []byte("a"), []byte("one"))
	s.Commit(1)
	s.Begin(2)
	s.Drop(2, "t", []byte("a"))
	b, f := s.Get(2, "t", []byte("a"))
	if e != api.OK || len(b) != 0 || f != api.ErrNoRow {
		t.Errorf("Open, Get = %d, %q, %d", e, b, f)
	}
	if l := s.Rows("t"); len(l) != 1 || string(l[0].Row) != "one" {
		t.Errorf("Rows = %v", l)
	}
	s.Prepare(2)
	if e = s.Put(2, "t", []byte("b"), nil); e != api.ErrDoubt {
		t.Errorf("Put = %d", e)
	}
	s, e = shard.Open(d.Power(0))
	if e != api.OK || !slices.Equal(s.Doubts(), []int{2}) || len(s.Rows("t")) != 1 {
		t.Errorf("Open = %d: %v, %v", e, s.Doubts(), s.Rows("t"))
	}
	if e = s.Commit(2); e != api.OK || len(s.Rows("t")) != 0 {
		t.Errorf("Commit = %d: %v", e, s.Rows("t"))
	}
	if e = s.Image(); e != api.OK {
		t.Errorf("Image = %d", e)
	}
}
