package wal_test

import (
	"fmt"
	"math"
	"math/rand/v2"
	"slices"
	"strings"
	"sync"
	"testing"

	"frankpledge/api"
	"frankpledge/disk"
	"frankpledge/wal"
)

// P7.1 (W1): a log on a new disk has no records, and each disk has a log of its
// own.
func TestOpenNew(t *testing.T) {
	p, e := opened(disk.New())
	if e.e != api.OK {
		t.Fatalf("Open = %d", e.e)
	}
	model{}.check(t, p)
	other, _ := opened(disk.New())
	other.w.Append([]byte("x"))
	model{}.check(t, p)
}

// P7.1 (W1): no disk.
func TestOpenNil(t *testing.T) {
	if w, e := wal.Open(nil); w != nil || e != api.ErrArg {
		t.Errorf("Open of no disk = %v, %d", w, e)
	}
}

// P7.1 (W1): Open makes all records durable, and leaves none of them out.
func TestOpenSyncs(t *testing.T) {
	for synced := range 4 {
		for trimmed := range synced + 1 {
			m, p := made(t, trimmed, synced, "a", "bcd", "LL")
			m.check(t, p)
			m, p = m.follow(t, p, step{name: "Open"})
			m.check(t, p)
			if p.d.Safe() != p.d.End() {
				t.Errorf("Safe is %d, End is %d", p.d.Safe(), p.d.End())
			}
		}
	}
}

// P7.1 (W1): Append tells where a record's frame begins, and makes nothing durable.
func TestAppend(t *testing.T) {
	m := model{}
	p, _ := opened(disk.New())
	for _, x := range []struct {
		record string
		number int
	}{
		{"one", 0}, {"second", 8}, {"\x00", 19}, {"L", 25}, {"\xff\x00L", 31},
		{letters(255), 39}, {letters(256), 299}, {letters(257), 560}, {letters(4096), 822}, {"x", 4923},
	} {
		if n, e := p.w.Append([]byte(x.record)); n != x.number || e != api.OK {
			t.Fatalf("Append(%.20q) = %d, %d, not %d", x.record, n, e, x.number)
		}
		m, _ = m.do(step{name: "Append", bytes: x.record})
		m.check(t, p)
		if p.w.Safe() != 0 {
			t.Fatalf("Safe = %d", p.w.Safe())
		}
	}
}

// P7.1 (W1): records of each length that matters, and bytes that are none.
func TestAppendLengths(t *testing.T) {
	for _, n := range []int{0, 1, 2, 255, 256, 257, 258, 4095, 4096, 4097, 4098, 8192, 65535, 65536, 65537, 65538, 1 << 20, 1<<20 + 1} {
		for _, synced := range []int{0, 1, 2} {
			m, p := made(t, 0, synced, "ahead", "too")
			m, p = m.follow(t, p, step{name: "Append", bytes: letters(n)})
			m.check(t, p)
			want := 2
			if n >= 1 && n <= 4096 {
				want = 3
			}
			if l := p.w.Numbers(); len(l) != want {
				t.Errorf("after %d bytes: %v", n, l)
			}
		}
	}
	_, p := made(t, 0, 0)
	if n, e := p.w.Append(nil); n != 0 || e != api.ErrArg {
		t.Errorf("Append of nothing = %d, %d", n, e)
	}
}

// filled is a log whose disk has room for so many bytes.
func filled(t *testing.T, room int) (model, pair) {
	t.Helper()
	m, p := made(t, 0, 0)
	for left := api.MaxDisk - room; left > 0; {
		n := min(4101, left)
		if left > n && left-n < 6 {
			n -= 6
		}
		m, p = m.follow(t, p, step{name: "Append", bytes: letters(n - 5)})
		left -= n
	}
	if p.d.End() != api.MaxDisk-room {
		t.Fatalf("End is %d, not %d less than what a disk holds", p.d.End(), room)
	}
	return m, p
}

// P7.1 (W1): a disk with as much room as a frame needs, and with less. What is no
// record is ErrArg even then.
func TestAppendFull(t *testing.T) {
	for _, room := range []int{0, 1, 5, 6, 7, 11, 12, 4100, 4101, 4102} {
		m, p := filled(t, room)
		for _, n := range []int{0, 4097, room - 4, room - 3, 4096} {
			if s := (step{name: "Append", bytes: letters(max(n, 0))}); room < n+5 || n < 1 || n > 4096 {
				m, p = m.follow(t, p, s)
			}
		}
		m.checkAll(t, p.w)
		m, p = m.follow(t, p, step{name: "Append", bytes: letters(min(max(room-5, 0), 4096))})
		m, p = m.follow(t, p, step{name: "Append", bytes: "xy"})
		m.checkDisk(t, p.d)
		m.checkAll(t, p.w)
	}
}

// P7.1 (W1): what was trimmed makes room.
func TestAppendRoom(t *testing.T) {
	m, p := filled(t, 0)
	m, p = m.follow(t, p, step{name: "Sync"})
	for range 300 {
		m, p = m.follow(t, p, step{name: "Append", bytes: "x"})
		m, p = m.follow(t, p, step{name: "Trim", to: m.entries[1].number})
		m, p = m.follow(t, p, step{name: "Append", bytes: letters(4096)})
		m, p = m.follow(t, p, step{name: "Sync"})
	}
	m.checkDisk(t, p.d)
	m.checkAll(t, p.w)
	m, p = m.follow(t, p, step{name: "Power", to: 0})
	m.checkDisk(t, p.d)
	m.checkAll(t, p.w)
}

// P7.1 (W1): Sync makes durable what is there then, and no more.
func TestSync(t *testing.T) {
	p, _ := opened(disk.New())
	for i, record := range []string{"a", "bc", "d"} {
		p.w.Append([]byte(record))
		if p.w.Safe() != i {
			t.Errorf("Safe = %d ahead of Sync %d", p.w.Safe(), i)
		}
		if e := p.w.Sync(); e != api.OK || p.w.Safe() != i+1 || p.d.Safe() != p.d.End() {
			t.Errorf("Sync %d = %d: Safe is %d", i, e, p.w.Safe())
		}
	}
	if e := p.w.Sync(); e != api.OK || p.w.Safe() != 3 {
		t.Errorf("Sync = %d: Safe is %d", e, p.w.Safe())
	}
}

// P7.1 (W1): Trim to each offset, with as many durable records as may be.
func TestTrim(t *testing.T) {
	for synced := range 5 {
		for trimmed := range synced + 1 {
			m, p := made(t, trimmed, synced, "a", "bcd", "L", "efghi")
			for to := range m.end + 10 {
				at, q := made(t, trimmed, synced, "a", "bcd", "L", "efghi")
				at, q = at.follow(t, q, step{name: "Trim", to: to - 3})
				at.check(t, q)
			}
			for _, to := range extremes() {
				m, p = m.follow(t, p, step{name: "Trim", to: to})
				m.check(t, p)
			}
		}
	}
}

// P7.1 (W1): Trim by hand.
func TestTrimByHand(t *testing.T) {
	_, p := made(t, 0, 2, "one", "second", "3")
	for _, x := range []struct {
		to   int
		e    api.Errno
		left []int
	}{
		{7, api.ErrArg, []int{0, 8, 19}}, {25, api.ErrArg, []int{0, 8, 19}}, {0, api.OK, []int{0, 8, 19}},
		{8, api.OK, []int{8, 19}}, {0, api.ErrArg, []int{8, 19}}, {19, api.OK, []int{19}}, {25, api.ErrArg, []int{19}},
	} {
		if e := p.w.Trim(x.to); e != x.e || !slices.Equal(p.w.Numbers(), x.left) || p.d.Begin() != x.left[0] {
			t.Errorf("Trim(%d) = %d: %v, Begin is %d", x.to, e, p.w.Numbers(), p.d.Begin())
		}
	}
	p.w.Sync()
	if e := p.w.Trim(25); e != api.OK || len(p.w.Numbers()) != 0 || p.d.Begin() != 25 || p.w.Safe() != 0 {
		t.Errorf("Trim to End = %d: %v, Begin is %d", e, p.w.Numbers(), p.d.Begin())
	}
	if n, e := p.w.Append([]byte("x")); n != 25 || e != api.OK {
		t.Errorf("Append = %d, %d", n, e)
	}
}

// P7.1 (W1): Read of what has no record.
func TestRead(t *testing.T) {
	for trimmed := range 4 {
		m, p := made(t, trimmed, 3, "a", framed("bcd"), "L", "efghi")
		m.check(t, p)
		for _, n := range extremes() {
			m.checkRead(t, p.w, n)
		}
	}
}

// P7.1, P1: no log.
func TestNil(t *testing.T) {
	var w *wal.Wal
	for _, n := range append(extremes(), 0, 1) {
		if at, e := w.Append(make([]byte, max(0, min(n, api.MaxDisk)))); at != 0 || e != api.ErrArg {
			t.Errorf("Append = %d, %d", at, e)
		}
		if e := w.Trim(n); e != api.ErrArg {
			t.Errorf("Trim(%d) = %d", n, e)
		}
		if b, e := w.Read(n); len(b) != 0 || e != api.ErrArg {
			t.Errorf("Read(%d) = %q, %d", n, b, e)
		}
	}
	if e := w.Sync(); e != api.ErrArg {
		t.Errorf("Sync = %d", e)
	}
	if len(w.Numbers()) != 0 || w.Safe() != 0 {
		t.Errorf("Numbers, Safe = %v, %d", w.Numbers(), w.Safe())
	}
}

// P7.1: all short lists of steps, with all that may be told of the log.
func TestAllShortHistories(t *testing.T) {
	count := 0
	histories(4, func(l []step) {
		defer func() {
			if t.Failed() {
				t.Logf("after %v", l)
			}
		}()
		m := model{}
		p, _ := opened(disk.New())
		for _, s := range l {
			m, p = m.follow(t, p, s)
		}
		m.check(t, p)
		count++
	})
	if count < 100000 {
		t.Errorf("only %d histories", count)
	}
}

// P7.1: long lists of steps, with short records and with long ones.
func TestLongHistories(t *testing.T) {
	r := rand.New(rand.NewPCG(5, 6))
	full := 0
	for _, most := range []int{2, 3, 12, 12, 300, 4096, 4096, 4097, 5000} {
		m, p := made(t, 0, 0)
		for i := range 2000 {
			s := anyStep(r, m, most)
			if most > 4000 && s.name != "Append" && r.IntN(60) > 0 {
				continue
			}
			if _, x := m.do(s); x.e == api.ErrFull {
				full++
			}
			m, p = m.follow(t, p, s)
			if most < 1000 || i%40 == 0 {
				m.checkDisk(t, p.d)
				m.checkAll(t, p.w)
			}
			m.checkRead(t, p.w, m.begin-1+r.IntN(m.end-m.begin+3))
		}
	}
	if full < 10 {
		t.Errorf("only %d times full", full)
	}
}

// content are all records of a log, with their numbers.
func content(t *testing.T, w *wal.Wal) []entry {
	t.Helper()
	var l []entry
	for _, n := range w.Numbers() {
		b, e := w.Read(n)
		if e != api.OK {
			t.Fatalf("Read(%d) = %d", n, e)
		}
		l = append(l, entry{n, string(b)})
	}
	return l
}

// checkPrefix holds what is opened after losses of power against what was there.
func checkPrefix(t *testing.T, p pair, left *disk.Disk) int {
	t.Helper()
	were := content(t, p.w)
	w, e := wal.Open(left)
	if e != api.OK {
		t.Fatalf("Open = %d", e)
	}
	are := content(t, w)
	if len(are) < p.w.Safe() || len(are) > len(were) || !slices.Equal(are, were[:len(are)]) {
		t.Fatalf("of %v, %d of them durable, %v are left", were, p.w.Safe(), are)
	}
	if w.Safe() != len(are) || left.Begin() != p.d.Begin() {
		t.Fatalf("of %d records left, %d are durable", len(are), w.Safe())
	}
	return len(are)
}

// P7.2: after each step of a log, whatever a loss of power leaves, or a second one
// ahead of Open; each prefix that has the durable records may be left.
func TestPrefix(t *testing.T) {
	r := rand.New(rand.NewPCG(7, 8))
	for _, most := range []int{2, 5, 30} {
		m, p := made(t, 0, 0)
		for range 1500 {
			m, p = m.follow(t, p, anyStep(r, m, most))
			others := p.d.End() - p.d.Safe()
			lengths := map[int]int{}
			for keep := range min(others, 300) + 1 {
				lengths[checkPrefix(t, p, p.d.Power(keep))]++
				checkPrefix(t, p, p.d.Power(-keep-1))
			}
			if all := len(p.w.Numbers()); others < 300 && len(lengths) != all-p.w.Safe()+1 {
				t.Fatalf("%d records, %d of them durable: %d prefixes may be left", all, p.w.Safe(), len(lengths))
			}
			checkPrefix(t, p, p.d.Power(r.IntN(others+1)).Power(r.IntN(9)))
			checkPrefix(t, p, p.d.Power(r.Int()))
		}
	}
}

// P7.2: long records, whose frames are torn at each place.
func TestPrefixLong(t *testing.T) {
	for _, n := range []int{1, 256, 1000, 4096} {
		_, p := made(t, 1, 2, "a", "bc", letters(n), "d", strings.Repeat("L\x00", 50))
		for keep := range p.d.End() - p.d.Safe() + 1 {
			checkPrefix(t, p, p.d.Power(keep))
		}
	}
}

// P7.2: records that themselves look like frames are not taken for them.
func TestPrefixFramesInRecords(t *testing.T) {
	inner := framed("a") + framed("b")
	for _, record := range []string{inner, framed(inner), inner[:9], "L" + inner, inner + "L"} {
		_, p := made(t, 0, 1, record, record, record)
		for keep := range p.d.End() - p.d.Safe() + 1 {
			checkPrefix(t, p, p.d.Power(keep))
		}
	}
}

// P7.1 (W1), P1: what others do to the disk. A record is there as long as its
// frame; new ones are behind the others.
func TestDiskOfOthers(t *testing.T) {
	_, p := made(t, 0, 1, "a", "b", "c")
	p.d.Sync()
	if p.w.Safe() != 3 {
		t.Errorf("Safe = %d after the disk's Sync", p.w.Safe())
	}
	p.d.Drop(1)
	p.d.Cut(17)
	if l := p.w.Numbers(); !slices.Equal(l, []int{6}) || p.w.Safe() != 1 {
		t.Errorf("Numbers = %v, Safe = %d", l, p.w.Safe())
	}
	for n, e := range map[int]api.Errno{0: api.ErrRecord, 6: api.OK, 12: api.ErrRecord} {
		if _, f := p.w.Read(n); f != e {
			t.Errorf("Read(%d) = %d, not %d", n, f, e)
		}
	}
	if n, e := p.w.Append([]byte("d")); n != 17 || e != api.OK || !slices.Equal(p.w.Numbers(), []int{6, 17}) {
		t.Errorf("Append = %d, %d: %v", n, e, p.w.Numbers())
	}
	if e := p.w.Trim(0); e != api.ErrArg {
		t.Errorf("Trim(0) = %d", e)
	}
	p.d.Cut(1)
	if len(p.w.Numbers()) != 0 || p.w.Safe() != 0 || p.w.Trim(6) != api.ErrArg || p.w.Trim(1) != api.OK {
		t.Errorf("Numbers = %v, Safe = %d", p.w.Numbers(), p.w.Safe())
	}
	p.d.Append([]byte("behind"))
	p.d.Sync()
	p.d.Drop(7)
	if n, e := p.w.Append([]byte("e")); n != 7 || e != api.OK || !slices.Equal(p.w.Numbers(), []int{7}) {
		t.Errorf("Append = %d, %d: %v", n, e, p.w.Numbers())
	}
}

// P1, P2: whatever others do to the disk, calls end and their answers agree.
func TestDiskOfOthersLong(t *testing.T) {
	r := rand.New(rand.NewPCG(11, 12))
	_, p := made(t, 0, 0)
	for range 50000 {
		switch r.IntN(8) {
		case 0:
			p.d.Cut(p.d.Begin() + r.IntN(p.d.End()-p.d.Begin()+1))
		case 1:
			p.d.Drop(p.d.Begin() + r.IntN(p.d.Safe()-p.d.Begin()+1))
		case 2:
			p.d.Append([]byte(letters(r.IntN(9))))
		case 3:
			p.w.Sync()
		case 4:
			p.w.Trim(p.d.Begin() + r.IntN(p.d.End()-p.d.Begin()+1))
		default:
			p.w.Append([]byte(letters(r.IntN(9))))
		}
		l := p.w.Numbers()
		for i, n := range l {
			if b, e := p.w.Read(n); e != api.OK || len(b) == 0 || i > 0 && n <= l[i-1] {
				t.Fatalf("Numbers = %v, Read(%d) = %q, %d", l, n, b, e)
			}
		}
		if p.w.Safe() > len(l) {
			t.Fatalf("%d of %d records are durable", p.w.Safe(), len(l))
		}
	}
}

// Rule 4: arguments are neither changed nor kept, nor read behind their end.
func TestArguments(t *testing.T) {
	m, p := made(t, 0, 0)
	for i := range 300 {
		b := []byte("abcdefghijklmnop")
		n := 1 + i%9
		p.w.Append(b[:n])
		if string(b) != "abcdefghijklmnop" {
			t.Fatalf("Append changes its argument to %q", b)
		}
		m, _ = m.do(step{name: "Append", bytes: string(b[:n])})
		clear(b)
	}
	m.check(t, p)
}

// Rule 4: answers are new memory, with all the room behind them.
func TestNewMemory(t *testing.T) {
	m, p := made(t, 1, 2, "abc", "def", "ghi", "jkl")
	for _, n := range p.w.Numbers() {
		a, _ := p.w.Read(n)
		clear(a[:cap(a)])
		b, _ := p.w.Read(n)
		_ = append(b, "XXXXXXXXXXXX"...)
		l := p.w.Numbers()
		clear(l[:cap(l)])
		_ = append(p.w.Numbers(), 1, 2, 3, 4, 5)
		m.check(t, p)
	}
	l := p.w.Numbers()
	b, _ := p.w.Read(8)
	p.w.Trim(16)
	p.w.Append([]byte("XYZ"))
	if string(b) != "def" || !slices.Equal(l, []int{8, 16, 24}) {
		t.Errorf("answers are changed to %q, %v by later calls", b, l)
	}
}

// Rule 4: logs don't share their records, nor does a log with what a loss of power
// leaves of it.
func TestApart(t *testing.T) {
	m, p := made(t, 1, 2, "a", "b", "c")
	left, q := m.follow(t, p, step{name: "Power", to: -1})
	for _, s := range steps() {
		after, x := left.follow(t, q, s)
		m, p = m.follow(t, p, step{name: "Append", bytes: "other"})
		after.check(t, x)
		m.check(t, p)
		left, q = after, x
	}
}

// P1: a disk full of the shortest records, and many calls on it, end in time.
func TestManyRecords(t *testing.T) {
	p, _ := opened(disk.New())
	count := 0
	for ; ; count++ {
		if n, e := p.w.Append([]byte{byte(count)}); e == api.ErrFull {
			break
		} else if n != 6*count || e != api.OK {
			t.Fatalf("Append = %d, %d", n, e)
		}
	}
	if count != api.MaxDisk/6 {
		t.Fatalf("%d records fill the disk", count)
	}
	p, _ = opened(p.d.Power(-1))
	if p.w.Safe() != 0 {
		t.Fatalf("%d records were durable", p.w.Safe())
	}
	for i := range count {
		p.w.Append([]byte{byte(i)})
	}
	p, _ = opened(p.d)
	l := p.w.Numbers()
	if len(l) != count || p.w.Safe() != count {
		t.Fatalf("%d records, %d durable, not %d", len(l), p.w.Safe(), count)
	}
	for i, n := range l {
		if b, e := p.w.Read(n); len(b) != 1 || b[0] != byte(i) || e != api.OK || n != 6*i {
			t.Fatalf("Read(%d) = %q, %d", n, b, e)
		}
	}
	for i := range 300000 {
		if e := p.w.Trim(6 * (i + 1)); e != api.OK {
			t.Fatalf("Trim(%d) = %d", 6*(i+1), e)
		}
		if n, e := p.w.Append([]byte{byte(i)}); n != 6*(count+i) || e != api.OK || p.w.Safe() != count-1 {
			t.Fatalf("Append = %d, %d", n, e)
		}
		p.w.Sync()
	}
}

// outcomes are those of a history with right and wrong calls, as text.
func outcomes() []string {
	var l []string
	r := rand.New(rand.NewPCG(9, 10))
	m := model{}
	p, _ := opened(disk.New())
	for range 2000 {
		s := anyStep(r, m, 40)
		m, _ = m.do(s)
		var x outcome
		p, x = p.do(s)
		b, e := p.w.Read(m.begin)
		l = append(l, fmt.Sprint(s, x, p.w.Numbers(), p.w.Safe(), string(b), e, wal.Check(b)))
	}
	return l
}

// P1, P2: no call panics, and calls on other logs that came before, or go on
// meanwhile, change no answer.
func TestSameAgain(t *testing.T) {
	first := outcomes()
	again := make([][]string, 4)
	var wait sync.WaitGroup
	for i := range again {
		wait.Go(func() { again[i] = outcomes() })
	}
	wait.Wait()
	for _, l := range again {
		if !slices.Equal(l, first) {
			t.Error("the same calls have other answers")
		}
	}
}

// Asking a log changes nothing.
func TestAskingChangesNothing(t *testing.T) {
	m, p := made(t, 1, 2, "abc", "def", "ghi")
	for range 3 {
		p.w.Numbers()
		p.w.Safe()
		p.w.Read(8)
		p.w.Read(math.MaxInt)
		p.w.Read(0)
		m.check(t, p)
	}
}

// The example of README.md.
func TestReadmeExample(t *testing.T) {
	d := disk.New()
	w, e := wal.Open(d)
	if e != api.OK {
		t.Fatalf("%d", e)
	}
	w.Append([]byte("one"))
	w.Sync()
	if n, e := w.Append([]byte("second")); n != 8 || e != api.OK {
		t.Errorf("%d, %d", n, e)
	}
	if e := w.Trim(19); e != api.ErrArg {
		t.Errorf("%d", e)
	}
	if e := w.Trim(8); e != api.OK {
		t.Errorf("%d", e)
	}
	if b, e := w.Read(8); string(b) != "second" || e != api.OK {
		t.Errorf("%q, %d", b, e)
	}
	if b, e := w.Read(0); len(b) != 0 || e != api.ErrRecord {
		t.Errorf("%q, %d", b, e)
	}
	w, e = wal.Open(d.Power(10))
	if len(w.Numbers()) != 0 || e != api.OK {
		t.Errorf("%v, %d", w.Numbers(), e)
	}
}
