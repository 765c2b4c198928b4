package disk_test

import (
	"bytes"
	"fmt"
	"math"
	"math/rand/v2"
	"slices"
	"strings"
	"sync"
	"testing"

	"frankpledge/api"
	"frankpledge/disk"
)

// P6.1 (D1): a new disk is empty, and each one is another one.
func TestNew(t *testing.T) {
	d := disk.New()
	model{}.check(t, d)
	d.Append([]byte("abc"))
	d.Sync()
	model{}.check(t, disk.New())
}

// P6.1 (D1): Append tells where the bytes begin, and makes none of them durable.
func TestAppend(t *testing.T) {
	d := disk.New()
	for _, x := range []struct {
		b    []byte
		at   int
		read string
	}{
		{nil, 0, ""},
		{[]byte("abc"), 0, "abc"},
		{[]byte{}, 3, "abc"},
		{[]byte{0}, 3, "abc\x00"},
		{[]byte{255, 0, 'd'}, 4, "abc\x00\xff\x00d"},
	} {
		if at, e := d.Append(x.b); at != x.at || e != api.OK {
			t.Errorf("Append(%q) = %d, %d, not %d", x.b, at, e, x.at)
		}
		model{all: x.read}.check(t, d)
	}
}

// P6.1 (D1): as many bytes as a disk holds, and one more.
func TestAppendFull(t *testing.T) {
	for _, first := range []int{0, 1, 1000, api.MaxDisk - 1, api.MaxDisk} {
		m, d := made(t, 0, first, first)
		for _, n := range []int{1, 2, 1000, api.MaxDisk, 1 << 24} {
			m.follow(t, d, step{name: "Append", bytes: letters(api.MaxDisk - first + n)})
			m.checkOffsets(t, d)
			m.checkRead(t, d, 0, first)
		}
		m, d = m.follow(t, d, step{name: "Append", bytes: letters(api.MaxDisk - first)})
		if d.End() != api.MaxDisk {
			t.Errorf("a full disk's End is %d", d.End())
		}
		m.follow(t, d, step{name: "Append", bytes: "x"})
		m.follow(t, d, step{name: "Append"})
		m.checkOffsets(t, d)
		m.checkRead(t, d, 0, api.MaxDisk)
	}
}

// P6.1 (D1): what counts is the bytes that are there, not the offsets.
func TestAppendRoom(t *testing.T) {
	m, d := made(t, 0, api.MaxDisk, api.MaxDisk)
	for i := range 5 {
		begin := (i + 1) * 300000
		m, d = m.follow(t, d, step{name: "Drop", to: begin})
		m.follow(t, d, step{name: "Append", bytes: letters(300001)})
		m, d = m.follow(t, d, step{name: "Append", bytes: letters(300000)})
		m.follow(t, d, step{name: "Append", bytes: "x"})
		m.checkOffsets(t, d)
		m, d = m.follow(t, d, step{name: "Sync"})
		m.checkRead(t, d, begin, begin+api.MaxDisk)
	}
	m, d = m.follow(t, d, step{name: "Cut", to: d.End() - 10})
	m.follow(t, d, step{name: "Append", bytes: letters(11)})
	m, d = m.follow(t, d, step{name: "Append", bytes: letters(10)})
	m.follow(t, d, step{name: "Append", bytes: "x"})
	m.checkOffsets(t, d)
	m.follow(t, d.Power(10), step{name: "Append", bytes: "x"})
	m, d = m.follow(t, d, step{name: "Power", to: 9})
	m.follow(t, d, step{name: "Append", bytes: "xy"})
	m, d = m.follow(t, d, step{name: "Append", bytes: "x"})
	m.checkOffsets(t, d)
}

// P6.1 (D1): Sync makes durable what is there then, and no more.
func TestSync(t *testing.T) {
	d := disk.New()
	for i, s := range []string{"", "ab", "", "c"} {
		d.Append([]byte(s))
		before := d.Safe()
		if e := d.Sync(); e != api.OK || d.Safe() != d.End() {
			t.Errorf("Sync %d = %d: Safe is %d", i, e, d.Safe())
		}
		safe := d.Safe()
		d.Append([]byte("x"))
		if d.Safe() != safe || safe < before {
			t.Errorf("Safe is %d after Append, %d ahead of it", d.Safe(), safe)
		}
	}
}

// P6.1 (D1): Drop, at and beside Begin, Safe and End.
func TestDrop(t *testing.T) {
	for _, to := range append(extremes(), -1, 0, 1, 2, 3, 4, 5, 6, 7, 8, 9) {
		_, d := made(t, 3, 6, 8)
		e := d.Drop(to)
		m := model{letters(8), 3, 6}
		want := api.ErrArg
		if to >= 3 && to <= 6 {
			m.begin, want = to, api.OK
		}
		if e != want {
			t.Errorf("Drop(%d) = %d, not %d", to, e, want)
		}
		m.check(t, d)
	}
}

// P6.1 (D1): Cut, at and beside Begin, Safe and End.
func TestCut(t *testing.T) {
	for _, to := range append(extremes(), -1, 0, 1, 2, 3, 4, 5, 6, 7, 8, 9) {
		_, d := made(t, 3, 6, 8)
		e := d.Cut(to)
		m := model{letters(8), 3, 6}
		want := api.ErrArg
		if to >= 3 && to <= 8 {
			m.all, m.safe, want = m.all[:to], to, api.OK
		}
		if e != want {
			t.Errorf("Cut(%d) = %d, not %d", to, e, want)
		}
		m.check(t, d)
	}
}

// P6.1 (D1): bytes that were cut don't come back, and others stand at their
// offsets.
func TestCutThenAppend(t *testing.T) {
	_, d := made(t, 2, 4, 8)
	d.Cut(5)
	for i, s := range []string{"X", "", "YZ"} {
		if at, e := d.Append([]byte(s)); at != []int{5, 6, 6}[i] || e != api.OK {
			t.Errorf("Append(%q) = %d, %d", s, at, e)
		}
	}
	model{"abcdeXYZ", 2, 5}.check(t, d)
	model{"abcdeX", 2, 6}.check(t, d.Power(1))
}

// P6.1 (D1): Read, with numbers that are no offsets at all.
func TestRead(t *testing.T) {
	for _, x := range [][3]int{{0, 0, 0}, {0, 0, 8}, {0, 8, 8}, {3, 6, 8}, {8, 8, 8}} {
		m, d := made(t, x[0], x[1], x[2])
		m.check(t, d)
		l := append(extremes(), -1, 0, 3, 5, 8, 9)
		for _, from := range l {
			for _, to := range l {
				m.checkRead(t, d, from, to)
			}
		}
	}
}

// P6.1 (D2): a loss of power by hand, with each number to keep.
func TestPower(t *testing.T) {
	d := disk.New()
	d.Append([]byte("abcdef"))
	d.Sync()
	d.Append([]byte("ghi"))
	d.Drop(2)
	for keep, want := range map[int]string{
		0: "cdef", 1: "cdefg", 2: "cdefgh", 3: "cdefghi", 4: "cdef", 5: "cdefg", 7: "cdefghi", 8: "cdef",
		-1: "cdef", -2: "cdefg", -3: "cdefgh", -4: "cdefghi", -5: "cdef", -6: "cdefg", -8: "cdefghi",
		math.MaxInt: "cdefghi", math.MaxInt - 1: "cdefgh", math.MinInt: "cdefghi", math.MinInt + 1: "cdefgh",
	} {
		x := d.Power(keep)
		model{"ab" + want, 2, 2 + len(want)}.check(t, x)
		model{"abcdefghi", 2, 6}.check(t, d)
	}
}

// P6.1 (D2): disks with as many bytes of each sort as may be, each number to keep.
func TestPowerEdges(t *testing.T) {
	for begin := range 4 {
		for safe := begin; safe < 6; safe++ {
			for end := safe; end < 10; end++ {
				m, d := made(t, begin, safe, end)
				for keep := -25; keep <= 25; keep++ {
					left, x := m.follow(t, d, step{name: "Power", to: keep})
					left.check(t, x)
				}
				for _, keep := range extremes() {
					left, x := m.follow(t, d, step{name: "Power", to: keep})
					left.check(t, x)
				}
				m.check(t, d)
			}
		}
	}
}

// P6.1 (D2): a disk and what a loss of power leaves of it go their own ways.
func TestPowerApart(t *testing.T) {
	for _, keep := range []int{0, 1, 2} {
		for _, s := range append(steps(), step{name: "Append", bytes: letters(30)}) {
			m, d := made(t, 1, 3, 5)
			left, x := m.follow(t, d, step{name: "Power", to: keep})
			after, y := left.follow(t, x, s)
			m.check(t, d)
			after.check(t, y)
			other, z := m.follow(t, d, step{name: "Append", bytes: "QRSTUV"})
			other.check(t, z)
			after.check(t, y)
			other, z = other.follow(t, z, s)
			other.check(t, z)
			after.check(t, y)
		}
	}
}

// P6.1, P1: no disk.
func TestNil(t *testing.T) {
	var d *disk.Disk
	for _, n := range append(extremes(), -1, 0, 1) {
		if at, e := d.Append(make([]byte, max(0, min(n, api.MaxDisk+1)))); at != 0 || e != api.ErrArg {
			t.Errorf("Append = %d, %d", at, e)
		}
		if e := d.Drop(n); e != api.ErrArg {
			t.Errorf("Drop(%d) = %d", n, e)
		}
		if e := d.Cut(n); e != api.ErrArg {
			t.Errorf("Cut(%d) = %d", n, e)
		}
		for _, to := range []int{n, 0, math.MaxInt} {
			if b, e := d.Read(n, to); len(b) != 0 || e != api.ErrArg {
				t.Errorf("Read(%d, %d) = %q, %d", n, to, b, e)
			}
		}
		if x := d.Power(n); x != nil {
			t.Errorf("Power(%d) = %v", n, x)
		}
	}
	if e := d.Sync(); e != api.ErrArg {
		t.Errorf("Sync = %d", e)
	}
	if d.Begin() != 0 || d.End() != 0 || d.Safe() != 0 {
		t.Errorf("Begin, End, Safe = %d, %d, %d", d.Begin(), d.End(), d.Safe())
	}
	if d, e := d.Power(1).Append(nil); d != 0 || e != api.ErrArg {
		t.Errorf("Append to what is left of no disk = %d, %d", d, e)
	}
}

// P6.1: all short lists of steps, with all that may be told of the disk.
func TestAllShortHistories(t *testing.T) {
	count := 0
	histories(4, func(l []step) {
		defer func() {
			if t.Failed() {
				t.Logf("after %v", l)
			}
		}()
		m, d := model{}, disk.New()
		for i, s := range l {
			if i == len(l)-1 {
				m, d = m.follow(t, d, s)
				break
			}
			d, _ = do(d, s)
			m, _ = m.do(s)
		}
		m.check(t, d)
		count++
	})
	if count < 200000 {
		t.Errorf("only %d histories", count)
	}
}

// anyStep is a step that often is of use to a disk like the model's.
func anyStep(r *rand.Rand, m model, most int) step {
	end := len(m.all)
	switch r.IntN(12) {
	case 0, 1, 2, 3:
		b := []byte(letters(r.IntN(most + 1)))
		if len(b) > 0 {
			b[r.IntN(len(b))] = byte(r.Uint32())
		}
		return step{name: "Append", bytes: string(b)}
	case 4, 5:
		return step{name: "Sync"}
	case 6, 7:
		return step{name: "Drop", to: m.begin + r.IntN(m.safe-m.begin+3) - 1}
	case 8:
		return step{name: "Cut", to: m.begin + r.IntN(end-m.begin+3) - 1}
	case 9:
		return step{name: "Cut", to: end - r.IntN(3)}
	case 10:
		return step{name: "Drop", to: extremes()[r.IntN(len(extremes()))]}
	}
	return step{name: "Power", to: int(r.Uint64()) >> r.IntN(64)}
}

// P6.1: long lists of steps, on disks with many bytes and with few.
func TestLongHistories(t *testing.T) {
	r := rand.New(rand.NewPCG(5, 6))
	full := 0
	for _, most := range []int{3, 3, 50, 5000, api.MaxDisk / 3, api.MaxDisk / 3, api.MaxDisk + 1} {
		m, d := model{}, disk.New()
		for range 6000 / (1 + most/10000) {
			s := anyStep(r, m, most)
			if _, x := m.do(s); x.e == api.ErrFull {
				full++
			}
			m, d = m.follow(t, d, s)
			m.checkOffsets(t, d)
			from, to := m.begin+r.IntN(len(m.all)-m.begin+1), m.begin+r.IntN(len(m.all)-m.begin+1)
			m.checkRead(t, d, from, to)
			m.checkRead(t, d, m.begin, len(m.all))
			m.checkRead(t, d, m.begin-1, to)
			m.checkRead(t, d, from, len(m.all)+1)
		}
	}
	if full < 10 {
		t.Errorf("only %d times full", full)
	}
}

// content is all that a disk holds.
func content(t *testing.T, d *disk.Disk) string {
	t.Helper()
	b, e := d.Read(d.Begin(), d.End())
	if e != api.OK {
		t.Fatalf("Read of all bytes: error %d", e)
	}
	return string(b)
}

// P6.2: durable bytes stand at their offsets, with a prefix of the others behind
// them, and all of these are durable then; each such prefix may be left.
func TestDurable(t *testing.T) {
	r := rand.New(rand.NewPCG(7, 8))
	m, d := model{}, disk.New()
	for range 3000 {
		m, d = m.follow(t, d, anyStep(r, m, 6))
		all, durable := content(t, d), d.Safe()-d.Begin()
		lengths := map[int]int{}
		for keep := -20; keep <= 20; keep++ {
			x := d.Power(keep)
			left := content(t, x)
			if x.Begin() != d.Begin() || x.Safe() != x.End() || len(left) < durable || !strings.HasPrefix(all, left) {
				t.Fatalf("Power(%d) leaves %q from %d on (durable up to %d) of %q, %d of them durable", keep, left, x.Begin(), x.Safe(), all, durable)
			}
			if !strings.HasPrefix(content(t, x.Power(keep)), left) {
				t.Fatalf("what a loss of power left is not durable")
			}
			lengths[len(left)]++
		}
		if others := len(all) - durable; others < 20 && len(lengths) != others+1 {
			t.Fatalf("of %d others %d prefixes may be left", others, len(lengths))
		}
	}
}

// Rule 4: arguments are neither changed nor kept, nor read behind their end.
func TestArguments(t *testing.T) {
	d := disk.New()
	for i := range 300 {
		b := []byte("abcdefgh")
		n := 1 + i%3
		d.Append(b[:n])
		if string(b) != "abcdefgh" {
			t.Fatalf("Append changes its argument to %q", b)
		}
		clear(b)
	}
	if got, want := content(t, d), strings.Repeat("aababc", 100); got != want {
		t.Errorf("the disk has %q", got)
	}
}

// Rule 4: what Read answers is new memory, with all the room behind it.
func TestNewMemory(t *testing.T) {
	m, d := made(t, 2, 5, 9)
	for from := 2; from <= 9; from++ {
		for to := from; to <= 9; to++ {
			a, _ := d.Read(from, to)
			b, _ := d.Read(from, to)
			clear(a[:cap(a)])
			if string(b) != m.all[from:to] {
				t.Errorf("two answers share memory: %q", b)
			}
			_ = append(b, "XXXXXXXXXXXX"...)
			m.check(t, d)
		}
	}
	before, _ := d.Read(2, 9)
	d.Cut(3)
	d.Append([]byte("UVWXYZ"))
	d.Drop(3)
	if string(before) != "cdefghi" {
		t.Errorf("an answer is changed to %q by a later call", before)
	}
}

// P1: many calls on a disk that is full end in time.
func TestManyCalls(t *testing.T) {
	m, d := made(t, 0, api.MaxDisk, api.MaxDisk)
	for i := range 300000 {
		if e := d.Drop(i + 1); e != api.OK {
			t.Fatalf("Drop(%d) = %d", i+1, e)
		}
		if at, e := d.Append([]byte{byte(i)}); at != api.MaxDisk+i || e != api.OK {
			t.Fatalf("Append = %d, %d", at, e)
		}
		if e := d.Sync(); e != api.OK {
			t.Fatalf("Sync = %d", e)
		}
	}
	b, e := d.Read(300000, 300000+api.MaxDisk)
	if e != api.OK || string(b[:api.MaxDisk-300000]) != m.all[300000:] {
		t.Errorf("Read: %d bytes, %d", len(b), e)
	}
	for i, c := range b[api.MaxDisk-300000:] {
		if c != byte(i) {
			t.Fatalf("byte %d is %d", api.MaxDisk+i, c)
		}
	}
}

// outcomes are those of a history with right and wrong calls, as text.
func outcomes() []string {
	var l []string
	r := rand.New(rand.NewPCG(9, 10))
	m, d := model{}, disk.New()
	for range 2000 {
		s := anyStep(r, m, 40)
		m, _ = m.do(s)
		var x outcome
		d, x = do(d, s)
		b, e := d.Read(d.Begin(), d.End())
		l = append(l, fmt.Sprint(s, x, d.Begin(), d.Safe(), d.End(), string(b), e))
	}
	return l
}

// P1, P2: no call panics, and calls on other disks that came before, or go on
// meanwhile, change no answer.
func TestSameAgain(t *testing.T) {
	first := outcomes()
	again := make([][]string, 4)
	var wait sync.WaitGroup
	for i := range again {
		wait.Go(func() { again[i] = outcomes() })
	}
	wait.Wait()
	for _, l := range again {
		if !slices.Equal(l, first) {
			t.Error("the same calls have other answers")
		}
	}
}

// Asking a disk changes nothing.
func TestAskingChangesNothing(t *testing.T) {
	_, d := made(t, 2, 5, 9)
	_, e := made(t, 2, 5, 9)
	for range 3 {
		d.Begin()
		d.End()
		d.Safe()
		d.Power(1)
		d.Read(3, 7)
		d.Read(0, 99)
	}
	a, _ := d.Read(2, 9)
	b, _ := e.Read(2, 9)
	if !bytes.Equal(a, b) || d.Begin() != e.Begin() || d.Safe() != e.Safe() || d.End() != e.End() {
		t.Errorf("%q, %d, %d, %d", a, d.Begin(), d.Safe(), d.End())
	}
}

// The example of README.md.
func TestReadmeExample(t *testing.T) {
	d := disk.New()
	d.Append([]byte("abc"))
	d.Sync()
	if n, e := d.Append([]byte("de")); n != 3 || e != api.OK {
		t.Errorf("%d, %d", n, e)
	}
	if b, e := d.Power(1).Read(0, 4); string(b) != "abcd" || e != api.OK {
		t.Errorf("%q, %d", b, e)
	}
	if e := d.Drop(4); e != api.ErrArg {
		t.Errorf("%d", e)
	}
	if e := d.Drop(2); e != api.OK || d.Begin() != 2 {
		t.Errorf("%d, %d", e, d.Begin())
	}
	if b, e := d.Read(1, 3); len(b) != 0 || e != api.ErrGone {
		t.Errorf("%q, %d", b, e)
	}
}
