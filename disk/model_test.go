package disk_test

import (
	"math"
	"slices"
	"strconv"
	"strings"
	"testing"

	"frankpledge/api"
	"frankpledge/disk"
)

// model is what the document says of a disk. It keeps all bytes from the offset
// 0 on, those that were dropped too, so that an offset is a place in all.
type model struct {
	all         string
	begin, safe int
}

// step is a call that may change a disk, with its argument.
type step struct {
	name  string
	to    int
	bytes string
}

func (s step) String() string { return s.name + "(" + strconv.Itoa(s.to) + s.bytes + ")" }

// outcome is what a call answers.
type outcome struct {
	n int
	e api.Errno
}

// do is the disk after a step, and what the step answers.
func do(d *disk.Disk, s step) (*disk.Disk, outcome) {
	switch s.name {
	case "Append":
		n, e := d.Append([]byte(s.bytes))
		return d, outcome{n, e}
	case "Sync":
		return d, outcome{0, d.Sync()}
	case "Drop":
		return d, outcome{0, d.Drop(s.to)}
	case "Cut":
		return d, outcome{0, d.Cut(s.to)}
	}
	return d.Power(s.to), outcome{}
}

// do is the model after a step, and what the document says of the answer.
func (m model) do(s step) (model, outcome) {
	end := len(m.all)
	switch s.name {
	case "Append":
		if end-m.begin+len(s.bytes) > 1048576 {
			return m, outcome{0, api.ErrFull}
		}
		return model{m.all + s.bytes, m.begin, m.safe}, outcome{end, api.OK}
	case "Sync":
		return model{m.all, m.begin, end}, outcome{}
	case "Drop":
		if s.to < m.begin || s.to > m.safe {
			return m, outcome{0, api.ErrArg}
		}
		return model{m.all, s.to, m.safe}, outcome{}
	case "Cut":
		if s.to < m.begin || s.to > end {
			return m, outcome{0, api.ErrArg}
		}
		return model{m.all[:s.to], m.begin, s.to}, outcome{}
	}
	to := m.safe + m.kept(s.to)
	return model{m.all[:to], m.begin, to}, outcome{}
}

// kept is how many of the bytes that aren't durable a loss of power leaves.
func (m model) kept(keep int) int {
	others := uint64(len(m.all) - m.safe)
	if keep >= 0 {
		return int(uint64(keep) % (others + 1))
	}
	return int((math.MaxUint64 - uint64(int64(keep))) % (others + 1))
}

// follow does a step on a disk and on its model, and holds the answers against
// each other.
func (m model) follow(t *testing.T, d *disk.Disk, s step) (model, *disk.Disk) {
	t.Helper()
	m, want := m.do(s)
	d, got := do(d, s)
	if got != want {
		t.Fatalf("%.60v = %v, not %v", s, got, want)
	}
	return m, d
}

// checkOffsets holds a disk's offsets against the model.
func (m model) checkOffsets(t *testing.T, d *disk.Disk) {
	t.Helper()
	got := [3]int{d.Begin(), d.Safe(), d.End()}
	if want := [3]int{m.begin, m.safe, len(m.all)}; got != want {
		t.Fatalf("Begin, Safe, End = %v, not %v", got, want)
	}
}

// checkRead holds the bytes between two offsets against the model.
func (m model) checkRead(t *testing.T, d *disk.Disk, from, to int) {
	t.Helper()
	b, e := d.Read(from, to)
	if from < m.begin || from > to || to > len(m.all) {
		if e != api.ErrGone || len(b) != 0 {
			t.Fatalf("Read(%d, %d) = %.60q, %d, not ErrGone alone", from, to, b, e)
		}
		return
	}
	if e != api.OK || string(b) != m.all[from:to] {
		t.Fatalf("Read(%d, %d) = %.60q, %d, not %.60q", from, to, b, e, m.all[from:to])
	}
}

// check holds all that a disk tells of itself against the model.
func (m model) check(t *testing.T, d *disk.Disk) {
	t.Helper()
	m.checkOffsets(t, d)
	m.checkRead(t, d, m.begin, len(m.all))
	for from := -1; from <= len(m.all)+1; from++ {
		for to := -1; to <= len(m.all)+1; to++ {
			m.checkRead(t, d, from, to)
		}
	}
}

// letters are so many bytes, which tell an offset from those about it.
func letters(n int) string {
	return strings.Repeat("abcdefghijklmnopqrstuvw", n/23+1)[:n]
}

// made is a disk with some bytes of letters: those ahead of safe are durable,
// and those ahead of begin are dropped.
func made(t *testing.T, begin, safe, end int) (model, *disk.Disk) {
	t.Helper()
	m, d := model{}, disk.New()
	all := letters(end)
	for _, s := range []step{{name: "Append", bytes: all[:safe]}, {name: "Sync"}, {name: "Append", bytes: all[safe:]}, {name: "Drop", to: begin}} {
		m, d = m.follow(t, d, s)
	}
	return m, d
}

// extremes are numbers that no offset of a test is near to.
func extremes() []int {
	var l []int
	for _, n := range []int{math.MinInt, math.MinInt + 1, -1 << 32, -1 << 31, math.MaxInt32, 1 << 31, 1 << 32, math.MaxInt - 1, math.MaxInt} {
		l = append(l, n)
	}
	return append(l, -api.MaxDisk, -1000, 1000, api.MaxDisk, api.MaxDisk+1)
}

// steps are all of a kind that matter to a disk of few bytes.
func steps() []step {
	l := []step{{name: "Append"}, {name: "Append", bytes: "x"}, {name: "Append", bytes: "yz"}, {name: "Sync"}}
	for to := -1; to <= 5; to++ {
		l = append(l, step{name: "Drop", to: to}, step{name: "Cut", to: to})
	}
	for _, keep := range []int{0, 1, 2, -2} {
		l = append(l, step{name: "Power", to: keep})
	}
	return l
}

// histories visits all lists of so many steps at the most.
func histories(most int, visit func(l []step)) {
	all := steps()
	var grow func(l []step)
	grow = func(l []step) {
		visit(l)
		for _, s := range all {
			if len(l) < most {
				grow(append(slices.Clip(l), s))
			}
		}
	}
	grow(nil)
}
