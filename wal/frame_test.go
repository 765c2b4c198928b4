package wal_test

import (
	"math/rand/v2"
	"strings"
	"testing"

	"frankpledge/api"
	"frankpledge/disk"
	"frankpledge/wal"
)

// P7.1 (W1): checksums by hand. The first four are those that are published for
// this CRC-16.
func TestCheck(t *testing.T) {
	for s, want := range map[string]uint16{
		"":                       0xFFFF,
		"123456789":              0x29B1,
		"A":                      0xB915,
		strings.Repeat("A", 256): 0xEA0B,
		"\x00":                   0xE1F0,
		"\xff":                   0xFF00,
		"\xff\xff":               0x0000,
		"\xff\xff\x00\x00\x00":   0x0000,
		"\xff\xff\x01":           0x1021,
	} {
		if got := wal.Check([]byte(s)); got != want {
			t.Errorf("Check(%.20q) = %04x, not %04x", s, got, want)
		}
	}
}

// P7.1 (W1): checksums are what is left by a division, for all short bytes and
// for longer ones of each length.
func TestCheckDivision(t *testing.T) {
	for i := range 256 {
		for _, b := range [][]byte{{byte(i)}, {byte(i), 0}, {0, byte(i)}, {0, 0, 0, byte(i)}, {255, 255, 255, byte(i)}} {
			if got, want := wal.Check(b), remainder(b, 0xFFFF); got != want {
				t.Fatalf("Check(%v) = %04x, not %04x", b, got, want)
			}
		}
	}
	for i := range 65536 {
		b := []byte{byte(i >> 8), byte(i)}
		if got, want := wal.Check(b), crc(string(b)); got != want {
			t.Fatalf("Check(%v) = %04x, not %04x", b, got, want)
		}
	}
	r := rand.New(rand.NewPCG(1, 2))
	for n := range 300 {
		b := make([]byte, n)
		for i := range b {
			b[i] = byte(r.Uint32())
		}
		got := wal.Check(b)
		if want := remainder(b, 0xFFFF); got != want || crc(string(b)) != want {
			t.Fatalf("Check(%v) = %04x, not %04x", b, got, want)
		}
		if got := wal.Check(append(b, byte(got>>8), byte(got))); got != 0 {
			t.Fatalf("Check of %v with its checksum is %04x", b, got)
		}
	}
}

// Rule 4: what is checked is neither changed nor read behind its end.
func TestCheckArgument(t *testing.T) {
	b := []byte("123456789xyz")
	if got := wal.Check(b[:9]); got != 0x29B1 || string(b) != "123456789xyz" {
		t.Errorf("Check = %04x, and leaves %q", got, b)
	}
}

// holding is a disk with some bytes, those ahead of an offset dropped.
func holding(t *testing.T, s string, begin int) *disk.Disk {
	t.Helper()
	d := disk.New()
	if _, e := d.Append([]byte(s)); e != api.OK {
		t.Fatalf("Append of %d bytes = %d", len(s), e)
	}
	if begin > 0 {
		d.Sync()
		d.Drop(begin)
	}
	return d
}

// checkOpen holds a log on a disk with some bytes against what is parsed of them.
func checkOpen(t *testing.T, s string, begin int) {
	t.Helper()
	p, e := opened(holding(t, s, begin))
	if e.e != api.OK || p.w == nil {
		t.Fatalf("Open on %.60q from %d on = %d", s, begin, e.e)
	}
	l, end := parsed(s[begin:], begin)
	m := model{l, begin, end, end}
	m.checkDisk(t, p.d)
	m.checkAll(t, p.w)
	m, p = m.follow(t, p, step{name: "Append", bytes: "behind"})
	m.checkDisk(t, p.d)
	m.checkAll(t, p.w)
}

// P7.1 (W1): frames by hand, as Append lays them and as Open takes them. Their
// checksums are those of another program.
func TestFrames(t *testing.T) {
	for record, frame := range map[string]string{
		"one":    "L\x00\x02\x5f\x18one",
		"\x00":   "L\x00\x00\xcc\x9c\x00",
		"123456": "L\x00\x05\x68\x7d123456",
	} {
		if framed(record) != frame {
			t.Errorf("the model's frame of %q is %q", record, framed(record))
		}
		p, _ := opened(disk.New())
		p.w.Append([]byte(record))
		if b, _ := p.d.Read(0, p.d.End()); string(b) != frame {
			t.Errorf("the frame of %q is %q, not %q", record, b, frame)
		}
		w, e := wal.Open(holding(t, frame, 0))
		if b, f := w.Read(0); string(b) != record || e != api.OK || f != api.OK {
			t.Errorf("%q is the frame of %q, %d, %d", frame, b, e, f)
		}
	}
}

// P7.1 (W1): Open takes the frames that are there, and cuts off what follows.
func TestOpenFrames(t *testing.T) {
	two := framed("first") + framed("2nd")
	for _, s := range []string{
		"", "L", "x", "LLLLLLLLLLLL", strings.Repeat("\x00", 100), strings.Repeat("L", 5000),
		two, two + "L", two + "\x00", two + "x" + two, two + "L" + two, "x" + two, two + two,
		framed("L"), framed(two), framed(two)[:20], framed(two) + framed(framed(two)),
		two + framed(letters(4096)), two + framed(letters(4095)), two + framed(letters(4096))[:4100],
		"l" + two[1:], "\x4d" + two[1:], two[:11] + "\x4b" + two[12:],
	} {
		checkOpen(t, s, 0)
		for begin := range min(len(s), 40) {
			checkOpen(t, s, begin+1)
		}
	}
}

// P7.1 (W1): a frame is that of a record, which has at most 4096 bytes, whatever
// two bytes can tell. No bytes at all are no record, and have no frame.
func TestOpenLongFrames(t *testing.T) {
	for _, n := range []int{1, 2, 255, 256, 257, 258, 511, 512, 513, 4094, 4095, 4096, 4097, 4098, 4352, 8192, 32768, 32769, 61440, 65535, 65536} {
		f := framed(letters(n))
		for _, s := range []string{f, framed("ahead") + f, f + framed("behind"), f[:len(f)-1], f + f[:len(f)-1]} {
			checkOpen(t, s, 0)
		}
		w, e := wal.Open(holding(t, f, 0))
		want := 0
		if n <= api.MaxRecord {
			want = 1
		}
		if e != api.OK || len(w.Numbers()) != want {
			t.Errorf("the frame of %d bytes: %v, %d", n, w.Numbers(), e)
		}
	}
}

// P7.1 (W1): each prefix of frames.
func TestOpenPrefixes(t *testing.T) {
	s := framed("one") + framed("L") + framed(letters(300)) + framed("last")
	for n := range len(s) + 1 {
		checkOpen(t, s[:n], 0)
	}
}

// P7.1 (W1): one bit of a frame that is another one, or one byte, is found.
func TestOpenChanged(t *testing.T) {
	ahead, f := framed("ahead"), framed("some record")
	behind := framed("b") + framed(letters(600))
	for at := range f {
		for other := range 256 {
			if byte(other) == f[at] {
				continue
			}
			changed := f[:at] + string([]byte{byte(other)}) + f[at+1:]
			d := holding(t, ahead+changed+behind, 0)
			w, e := wal.Open(d)
			if l := w.Numbers(); e != api.OK || len(l) != 1 || l[0] != 0 || d.End() != len(ahead) || d.Safe() != d.End() {
				t.Fatalf("byte %d made %d: %v, %d, End is %d", at, other, l, e, d.End())
			}
		}
	}
}

// P7.1 (W1), P1: bytes that are much like frames, and any bytes.
func TestOpenAnyBytes(t *testing.T) {
	r := rand.New(rand.NewPCG(3, 4))
	for range 20000 {
		var s string
		for range r.IntN(6) {
			f := []byte(framed(letters(1 + r.IntN(12))))
			switch r.IntN(12) {
			case 0:
				f[r.IntN(len(f))] = byte(r.Uint32())
			case 1:
				f = f[:r.IntN(len(f))]
			case 2:
				f = append(f, byte(r.Uint32()))
			case 3:
				for i := range f {
					f[i] = "L\x00"[r.IntN(2)]
				}
			}
			s += string(f)
		}
		checkOpen(t, s, r.IntN(len(s)+1))
	}
}
