package letter_test

import (
	"math"
	"math/rand/v2"
	"slices"
	"testing"

	"frankpledge/api"
	"frankpledge/letter"
)

// These are told apart from the program, from the document's words.

const (
	most  = math.MaxInt
	least = math.MinInt
	tx    = api.MaxNumber // the greatest number of a transaction
)

// kinds are all that a letter may be of.
func kinds() []api.LetterKind {
	return []api.LetterKind{api.Prepare, api.Yes, api.No, api.ReadOnly, api.Commit, api.Abort, api.Done, api.Ask}
}

// post is a letter of its parts.
func post(kind api.LetterKind, from, to, tx int, nodes ...int) api.Letter {
	return api.Letter{Kind: kind, From: from, To: to, Tx: tx, Nodes: nodes}
}

// upTo are the first so many nodes.
func upTo(n int) []int {
	var l []int
	for i := range n {
		l = append(l, i)
	}
	return l
}

// between tells whether a number is one of those from one up to another one.
func between(n, from, to int) bool { return from <= n && n <= to }

// valid is what the document says of valid letters.
func valid(l api.Letter) bool {
	for i, n := range l.Nodes {
		if !between(n, 0, 15) || i > 0 && l.Nodes[i-1] >= n {
			return false
		}
	}
	return between(int(l.Kind), 1, 8) && between(l.From, 0, 15) && between(l.To, 0, 15) &&
		between(l.Tx, 0, 1<<40) && len(l.Nodes) <= 16 && (len(l.Nodes) == 0 || l.Kind == api.Prepare)
}

// varint is that of a number (5): digits of 7 bits, by dividing.
func varint(n int) string {
	u := uint64(n) * 2
	if n < 0 {
		u = -u - 1
	}
	var s []byte
	for u > 127 {
		s = append(s, byte(u%128+128))
		u /= 128
	}
	return string(append(s, byte(u)))
}

// row is the encoding of a row of Ints (5).
func row(l ...int) string {
	s := string([]byte{byte(len(l))})
	for _, n := range l {
		s += "\x02" + varint(n)
	}
	return s
}

// code is a valid letter's encoding, as the document says it.
func code(l api.Letter) string {
	sum := 0
	for _, n := range l.Nodes {
		sum += int(math.Pow(2, float64(n)))
	}
	return row(int(l.Kind), l.From, l.To, l.Tx, sum)
}

// example is a letter and its encoding.
type example struct {
	letter api.Letter
	code   string
}

// examples are told by hand from the document, of every kind, with the edges.
func examples() []example {
	return []example{
		{post(api.Prepare, 0, 0, 0), "\x05\x02\x02\x02\x00\x02\x00\x02\x00\x02\x00"},
		{post(api.Prepare, 1, 15, 300, 0, 3, 15), "\x05\x02\x02\x02\x02\x02\x1e\x02\xd8\x04\x02\x92\x80\x04"},
		{post(api.Prepare, 2, 3, 1, 0), "\x05\x02\x02\x02\x04\x02\x06\x02\x02\x02\x02"},
		{post(api.Prepare, 2, 3, 1, 1), "\x05\x02\x02\x02\x04\x02\x06\x02\x02\x02\x04"},
		{post(api.Prepare, 2, 3, 1, 0, 1), "\x05\x02\x02\x02\x04\x02\x06\x02\x02\x02\x06"},
		{post(api.Prepare, 2, 3, 1, 5), "\x05\x02\x02\x02\x04\x02\x06\x02\x02\x02\x40"},
		{post(api.Prepare, 2, 3, 1, 6), "\x05\x02\x02\x02\x04\x02\x06\x02\x02\x02\x80\x01"},
		{post(api.Prepare, 2, 3, 1, 15), "\x05\x02\x02\x02\x04\x02\x06\x02\x02\x02\x80\x80\x04"},
		{post(api.Prepare, 15, 0, tx, upTo(16)...), "\x05\x02\x02\x02\x1e\x02\x00\x02\x80\x80\x80\x80\x80\x40\x02\xfe\xff\x07"},
		{post(api.Yes, 0, 1, 63), "\x05\x02\x04\x02\x00\x02\x02\x02\x7e\x02\x00"},
		{post(api.No, 1, 0, 64), "\x05\x02\x06\x02\x02\x02\x00\x02\x80\x01\x02\x00"},
		{post(api.ReadOnly, 7, 7, 8191), "\x05\x02\x08\x02\x0e\x02\x0e\x02\xfe\x7f\x02\x00"},
		{post(api.Commit, 9, 10, 8192), "\x05\x02\x0a\x02\x12\x02\x14\x02\x80\x80\x01\x02\x00"},
		{post(api.Abort, 14, 15, tx-1), "\x05\x02\x0c\x02\x1c\x02\x1e\x02\xfe\xff\xff\xff\xff\x3f\x02\x00"},
		{post(api.Done, 15, 15, tx), "\x05\x02\x0e\x02\x1e\x02\x1e\x02\x80\x80\x80\x80\x80\x40\x02\x00"},
		{post(api.Ask, 0, 0, 1), "\x05\x02\x10\x02\x00\x02\x00\x02\x02\x02\x00"},
	}
}

// edges are numbers about the limits, and some that become others when bits of
// theirs are lost.
func edges() []int {
	l := []int{least, least + 1, most, most - 1}
	for _, n := range []int{0, 1, 8, 15, 16, 1 << 8, 1 << 16, 1 << 31, 1 << 32, 1 << 40, 1 << 48, 1 << 62} {
		for d := -2; d <= 2; d++ {
			l = append(l, n+d, -n+d)
		}
	}
	slices.Sort(l)
	return slices.Compact(l)
}

// lists are the lists of nodes and of others, of all lengths up to the most.
func lists(of []int, most int) [][]int {
	l := [][]int{nil}
	from := 0
	for range most {
		level := l[from:]
		from = len(l)
		for _, x := range level {
			for _, n := range of {
				l = append(l, append(slices.Clone(x), n))
			}
		}
	}
	return l
}

// some are letters, valid or not, each unlike a valid one in one part at most.
func some() []api.Letter {
	var l []api.Letter
	for _, x := range examples() {
		l = append(l, x.letter)
	}
	for _, base := range []api.Letter{post(api.Prepare, 3, 4, 5, 1, 2), post(api.Prepare, 0, 0, 0), post(api.Ask, 15, 15, tx)} {
		for _, n := range edges() {
			for i, x := range slices.Repeat([]api.Letter{base}, 4) {
				switch i {
				case 0:
					x.Kind = api.LetterKind(n)
				case 1:
					x.From = n
				case 2:
					x.To = n
				case 3:
					x.Tx = n
				}
				l = append(l, x)
			}
		}
	}
	return l
}

// anyLetter is a valid letter: the same ones in each run.
func anyLetter(r *rand.Rand) api.Letter {
	l := post(api.LetterKind(1+r.IntN(8)), r.IntN(16), r.IntN(16), r.IntN(1<<r.IntN(41)+1))
	for n := range 16 {
		if l.Kind == api.Prepare && r.IntN(2) == 0 {
			l.Nodes = append(l.Nodes, n)
		}
	}
	return l
}

// equal compares letters as the document says it, field by field.
func equal(a, b api.Letter) bool {
	if len(a.Nodes) != len(b.Nodes) {
		return false
	}
	for i := range a.Nodes {
		if a.Nodes[i] != b.Nodes[i] {
			return false
		}
	}
	return a.Kind == b.Kind && a.From == b.From && a.To == b.To && a.Tx == b.Tx
}

// encoded is a letter's encoding, which it has.
func encoded(t *testing.T, l api.Letter) string {
	t.Helper()
	b, e := letter.Encode(l)
	if e != api.OK {
		t.Fatalf("Encode(%v): error %d", l, e)
	}
	return string(b)
}

// checkLetter fails unless a letter is right, and has its encoding, just if it is
// valid.
func checkLetter(t *testing.T, l api.Letter) bool {
	t.Helper()
	want := valid(l)
	if got := letter.Right(l); got != want {
		t.Errorf("Right(%v) = %v", l, got)
	}
	b, e := letter.Encode(l)
	if want && (e != api.OK || string(b) != code(l)) {
		t.Errorf("Encode(%v) = %q, %d, not %q", l, b, e, code(l))
	}
	if !want && (e != api.ErrLetter || len(b) != 0) {
		t.Errorf("Encode(%v) = %q, %d, not ErrLetter alone", l, b, e)
	}
	if x, e := letter.Decode(b); want && (e != api.OK || !equal(x, l)) {
		t.Errorf("Decode(%q) = %v, %d, not %v", b, x, e, l)
	}
	return want
}

// noLetter fails unless bytes are no letter's encoding.
func noLetter(t *testing.T, s string) {
	t.Helper()
	if l, e := letter.Decode([]byte(s)); e != api.ErrLetter || !equal(l, api.Letter{}) {
		t.Errorf("Decode(%.99q) = %v, %d, not ErrLetter alone", s, l, e)
	}
}

// checkCode fails unless bytes are decoded just if they are of the document's
// form, and then as a valid letter that has exactly this encoding.
func checkCode(t *testing.T, s string) bool {
	t.Helper()
	if !form(s) {
		noLetter(t, s)
		return false
	}
	l, e := letter.Decode([]byte(s))
	if e != api.OK || !valid(l) || code(l) != s {
		t.Errorf("Decode(%q) = %v, %d", s, l, e)
	}
	return true
}

// readInt reads the Int that bytes begin with. What has a shorter form, or is too
// great, is another one when it is told again.
func readInt(s string) (n int, rest string, ok bool) {
	if s == "" || s[0] != 2 {
		return 0, "", false
	}
	var u uint64
	for i := range len(s) - 1 {
		u |= uint64(s[i+1]%128) << (7 * i)
		if s[i+1] < 128 {
			return int(u>>1) ^ -int(u&1), s[i+2:], true
		}
	}
	return 0, "", false
}

// form tells whether bytes are a letter's encoding: five Ints that are told again
// as these bytes, and are the parts of a valid letter.
func form(s string) bool {
	if s == "" || s[0] != 5 {
		return false
	}
	var l [5]int
	rest, ok := s[1:], true
	for i := range l {
		if l[i], rest, ok = readInt(rest); !ok {
			return false
		}
	}
	if rest != "" || row(l[:]...) != s || !between(l[4], 0, 65535) {
		return false
	}
	x := post(api.LetterKind(l[0]), l[1], l[2], l[3])
	for n, bits := 0, l[4]; bits > 0; n, bits = n+1, bits/2 {
		if bits%2 == 1 {
			x.Nodes = append(x.Nodes, n)
		}
	}
	return valid(x)
}
