package wal_test

import (
	"math"
	"math/big"
	"math/rand/v2"
	"slices"
	"strconv"
	"strings"
	"testing"

	"frankpledge/api"
	"frankpledge/disk"
	"frankpledge/wal"
)

// remainder is the CRC-16 as the document names it: what is left of the bytes as
// one binary number, 16 bits further up and with the starting value ahead, when
// they are divided by the polynomial without carrying.
func remainder(b []byte, start int64) uint16 {
	rest := new(big.Int).SetBytes(append(slices.Clone(b), 0, 0))
	rest.Xor(rest, new(big.Int).Lsh(big.NewInt(start), uint(8*len(b))))
	for rest.BitLen() > 16 {
		rest.Xor(rest, new(big.Int).Lsh(big.NewInt(0x11021), uint(rest.BitLen()-17)))
	}
	return uint16(rest.Uint64())
}

// table is what each byte adds to a checksum.
var table = func() (t [256]uint16) {
	for i := range t {
		t[i] = remainder([]byte{byte(i)}, 0)
	}
	return t
}()

// crc is the CRC-16, reckoned byte by byte.
func crc(s string) uint16 {
	sum := uint16(0xFFFF)
	for i := range len(s) {
		sum = sum<<8 ^ table[byte(sum>>8)^s[i]]
	}
	return sum
}

// framed is the frame of a record, of any length that two bytes can tell.
func framed(record string) string {
	n := len(record) - 1
	size := string([]byte{byte(n / 256), byte(n % 256)})
	sum := crc(size + record)
	return "L" + size + string([]byte{byte(sum / 256), byte(sum % 256)}) + record
}

// entry is a record with its number.
type entry struct {
	number int
	bytes  string
}

func (x entry) end() int { return x.number + 5 + len(x.bytes) }

// parsed are the records of the frames with which the bytes from an offset on
// begin, and where the last one ends.
func parsed(s string, at int) ([]entry, int) {
	var l []entry
	for {
		if len(s) < 6 || s[0] != 'L' {
			return l, at
		}
		n := int(s[1])*256 + int(s[2]) + 1
		if n > 4096 || len(s) < 5+n || framed(s[5:5+n]) != s[:5+n] {
			return l, at
		}
		l = append(l, entry{at, s[5 : 5+n]})
		at, s = at+5+n, s[5+n:]
	}
}

// model is what the document says of a log and of its disk.
type model struct {
	entries          []entry
	begin, safe, end int
}

// step is a call that may change a log, with its argument.
type step struct {
	name  string
	to    int
	bytes string
}

func (s step) String() string { return s.name + "(" + strconv.Itoa(s.to) + s.bytes + ")" }

// outcome is what a call answers.
type outcome struct {
	n int
	e api.Errno
}

// pair is a log with its disk.
type pair struct {
	d *disk.Disk
	w *wal.Wal
}

// opened is a log on a disk.
func opened(d *disk.Disk) (pair, outcome) {
	w, e := wal.Open(d)
	return pair{d, w}, outcome{0, e}
}

// do is the log after a step, and what the step answers.
func (p pair) do(s step) (pair, outcome) {
	switch s.name {
	case "Append":
		n, e := p.w.Append([]byte(s.bytes))
		return p, outcome{n, e}
	case "Sync":
		return p, outcome{0, p.w.Sync()}
	case "Trim":
		return p, outcome{0, p.w.Trim(s.to)}
	case "Open":
		return opened(p.d)
	}
	return opened(p.d.Power(s.to))
}

// do is the model after a step, and what the document says of the answer.
func (m model) do(s step) (model, outcome) {
	switch s.name {
	case "Append":
		x := entry{m.end, s.bytes}
		if len(s.bytes) < 1 || len(s.bytes) > 4096 {
			return m, outcome{0, api.ErrArg}
		}
		if x.end()-m.begin > 1048576 {
			return m, outcome{0, api.ErrFull}
		}
		return model{append(slices.Clip(m.entries), x), m.begin, m.safe, x.end()}, outcome{x.number, api.OK}
	case "Sync":
		return model{m.entries, m.begin, m.end, m.end}, outcome{}
	case "Trim":
		i := slices.IndexFunc(m.entries, func(x entry) bool { return x.number == s.to })
		if s.to == m.end {
			i = len(m.entries)
		}
		if i < 0 || s.to > m.safe {
			return m, outcome{0, api.ErrArg}
		}
		return model{m.entries[i:], s.to, m.safe, m.end}, outcome{}
	case "Open":
		return model{m.entries, m.begin, m.end, m.end}, outcome{}
	}
	return m.left(m.safe + m.kept(s.to)), outcome{}
}

// kept is how many of the bytes that aren't durable a loss of power leaves.
func (m model) kept(keep int) int {
	others := uint64(m.end - m.safe)
	if keep >= 0 {
		return int(uint64(keep) % (others + 1))
	}
	return int((math.MaxUint64 - uint64(int64(keep))) % (others + 1))
}

// left is what is opened when all bytes from an offset on are lost.
func (m model) left(to int) model {
	n, end := 0, m.begin
	for n < len(m.entries) && m.entries[n].end() <= to {
		n, end = n+1, m.entries[n].end()
	}
	return model{m.entries[:n:n], m.begin, end, end}
}

// follow does a step on a log and on its model, and holds the answers against
// each other.
func (m model) follow(t *testing.T, p pair, s step) (model, pair) {
	t.Helper()
	m, want := m.do(s)
	p, got := p.do(s)
	if got != want {
		t.Fatalf("%.60v = %v, not %v", s, got, want)
	}
	return m, p
}

// checkDisk holds a disk's offsets and bytes against the model.
func (m model) checkDisk(t *testing.T, d *disk.Disk) {
	t.Helper()
	got := [3]int{d.Begin(), d.Safe(), d.End()}
	if want := [3]int{m.begin, m.safe, m.end}; got != want {
		t.Fatalf("Begin, Safe, End = %v, not %v", got, want)
	}
	var all strings.Builder
	for _, x := range m.entries {
		all.WriteString(framed(x.bytes))
	}
	if b, e := d.Read(d.Begin(), d.End()); string(b) != all.String() || e != api.OK {
		t.Fatalf("the disk has %.80q, %d, not %.80q", b, e, all.String())
	}
}

// checkRead holds what the log has of a number against the model.
func (m model) checkRead(t *testing.T, w *wal.Wal, number int) {
	t.Helper()
	want, e := "", api.ErrRecord
	for _, x := range m.entries {
		if x.number == number {
			want, e = x.bytes, api.OK
		}
	}
	if b, f := w.Read(number); string(b) != want || f != e {
		t.Fatalf("Read(%d) = %.60q, %d, not %.60q, %d", number, b, f, want, e)
	}
}

// checkAll holds Numbers, Safe and each record against the model.
func (m model) checkAll(t *testing.T, w *wal.Wal) {
	t.Helper()
	var numbers []int
	safe := 0
	got := w.Numbers()
	for _, x := range m.entries {
		numbers = append(numbers, x.number)
		if x.end() <= m.safe {
			safe++
		}
		if b, e := w.Read(x.number); string(b) != x.bytes || e != api.OK {
			t.Fatalf("Read(%d) = %.60q, %d, not %.60q", x.number, b, e, x.bytes)
		}
	}
	if !slices.Equal(got, numbers) {
		t.Fatalf("Numbers = %v, not %v", got, numbers)
	}
	if w.Safe() != safe {
		t.Fatalf("Safe = %d, not %d", w.Safe(), safe)
	}
}

// check holds all that a log of few bytes tells against the model.
func (m model) check(t *testing.T, p pair) {
	t.Helper()
	m.checkDisk(t, p.d)
	m.checkAll(t, p.w)
	for number := m.begin - 8; number <= m.end+8; number++ {
		m.checkRead(t, p.w, number)
	}
}

// letters are so many bytes, which tell a place from those about it.
func letters(n int) string {
	return strings.Repeat("LabcdefghijklmnopqrstuvwLLL", n/27+1)[:n]
}

// made is a log with some records: those ahead of synced are durable, and those
// ahead of trimmed are gone.
func made(t *testing.T, trimmed, synced int, records ...string) (model, pair) {
	t.Helper()
	m := model{}
	p, e := opened(disk.New())
	if e.e != api.OK {
		t.Fatalf("Open = %d", e.e)
	}
	for i, r := range records {
		if i == synced {
			m, p = m.follow(t, p, step{name: "Sync"})
		}
		m, p = m.follow(t, p, step{name: "Append", bytes: r})
	}
	if synced >= len(records) {
		m, p = m.follow(t, p, step{name: "Sync"})
	}
	to := m.end
	if trimmed < len(records) {
		to = m.entries[trimmed].number
	}
	return m.follow(t, p, step{name: "Trim", to: to})
}

// extremes are numbers that no offset of a test is near to.
func extremes() []int {
	var l []int
	for _, n := range []int{math.MinInt, math.MinInt + 1, -1 << 32, -1 << 31, math.MaxInt32, 1 << 31, 1 << 32, math.MaxInt - 5, math.MaxInt - 1, math.MaxInt} {
		l = append(l, n)
	}
	return append(l, -api.MaxDisk, -5000, -5, -1, 5000, api.MaxDisk, api.MaxDisk+1)
}

// steps are all of a kind that matter to a log of few bytes.
func steps() []step {
	l := []step{{name: "Append"}, {name: "Append", bytes: "L"}, {name: "Append", bytes: "yz"}, {name: "Sync"}, {name: "Open"}}
	for _, to := range []int{-1, 0, 1, 6, 7, 12, 13} {
		l = append(l, step{name: "Trim", to: to})
	}
	for _, keep := range []int{0, 3, 6, 7, -1, -2} {
		l = append(l, step{name: "Power", to: keep})
	}
	return l
}

// histories visits all lists of so many steps at the most.
func histories(most int, visit func(l []step)) {
	all := steps()
	var grow func(l []step)
	grow = func(l []step) {
		visit(l)
		for _, s := range all {
			if len(l) < most {
				grow(append(slices.Clip(l), s))
			}
		}
	}
	grow(nil)
}

// anyStep is a step that often is of use to a log like the model's.
func anyStep(r *rand.Rand, m model, most int) step {
	switch r.IntN(16) {
	case 0, 1, 2, 3, 4, 5, 6:
		b := []byte(letters(r.IntN(most + 1)))
		if len(b) > 0 {
			b[r.IntN(len(b))] = byte(r.Uint32())
		}
		return step{name: "Append", bytes: string(b)}
	case 7, 8:
		return step{name: "Sync"}
	case 9, 10:
		if len(m.entries) > 0 {
			return step{name: "Trim", to: m.entries[r.IntN(1+len(m.entries)/2)].number}
		}
		return step{name: "Trim", to: m.end}
	case 11:
		return step{name: "Trim", to: m.end - r.IntN(2)*r.IntN(8)}
	case 12:
		return step{name: "Trim", to: m.begin - 1 + r.IntN(m.end-m.begin+3)}
	case 13:
		return step{name: "Trim", to: extremes()[r.IntN(len(extremes()))]}
	case 14:
		return step{name: "Open"}
	}
	return step{name: "Power", to: int(r.Uint64()) >> r.IntN(64)}
}
