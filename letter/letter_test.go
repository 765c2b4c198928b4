package letter_test

import (
	"bytes"
	"fmt"
	"math/rand/v2"
	"slices"
	"strings"
	"sync"
	"testing"

	"frankpledge/api"
	"frankpledge/letter"
	rows "frankpledge/row"
)

// P11.1 (E1): encodings by hand, there and back.
func TestExamples(t *testing.T) {
	for _, x := range examples() {
		if !letter.Right(x.letter) {
			t.Errorf("%v is not right", x.letter)
		}
		if got := encoded(t, x.letter); got != x.code {
			t.Errorf("Encode(%v) = %q, not %q", x.letter, got, x.code)
		}
		if l, e := letter.Decode([]byte(x.code)); e != api.OK || !equal(l, x.letter) {
			t.Errorf("Decode(%q) = %v, %d, not %v", x.code, l, e, x.letter)
		}
	}
}

// P11.1 (E1): each part at its limits, beyond them, and where bits of it would
// make another number.
func TestParts(t *testing.T) {
	right := 0
	for _, l := range some() {
		if checkLetter(t, l) {
			right++
		}
	}
	if right < 200 {
		t.Errorf("only %d are right", right)
	}
}

// P11.1 (E1): every kind with every two nodes, without participants and with
// some.
func TestKinds(t *testing.T) {
	for _, kind := range append(kinds(), -1, 0, 9) {
		for from := -1; from <= api.MaxNodes; from++ {
			for to := -1; to <= api.MaxNodes; to++ {
				checkLetter(t, post(kind, from, to, 7))
				checkLetter(t, post(kind, from, to, 7, from))
				checkLetter(t, post(kind, from, to, 7, from, to))
			}
		}
	}
}

// P11.1 (E1): all short lists of participants, in every order, with those that
// are no nodes.
func TestNodes(t *testing.T) {
	for _, l := range lists([]int{-1, 0, 1, 2, 14, 15, 16}, 4) {
		checkLetter(t, post(api.Prepare, 0, 1, 2, l...))
		checkLetter(t, post(api.Yes, 0, 1, 2, l...))
	}
	for _, n := range edges() {
		checkLetter(t, post(api.Prepare, 0, 1, 2, n))
		checkLetter(t, post(api.Prepare, 0, 1, 2, 0, n))
		checkLetter(t, post(api.Prepare, 0, 1, 2, n, 15))
	}
}

// P11.1 (E1): all sets of nodes, and sets with a node more: twice, out of order,
// or beyond the last one.
func TestSets(t *testing.T) {
	for bits := range 1 << api.MaxNodes {
		l := post(api.Prepare, 4, 5, bits)
		for n := range api.MaxNodes {
			if bits>>n%2 == 1 {
				l.Nodes = append(l.Nodes, n)
			}
		}
		if !checkLetter(t, l) {
			t.Fatalf("%v is not valid", l)
		}
		if bits%97 > 0 {
			continue
		}
		for i := range len(l.Nodes) + 1 {
			for n := -1; n <= api.MaxNodes; n++ {
				x := l
				x.Nodes = slices.Insert(slices.Clone(l.Nodes), i, n)
				checkLetter(t, x)
			}
		}
	}
}

// P11.1 (E1): more participants than there are nodes, and no Nodes in letters of
// other kinds, however many.
func TestManyNodes(t *testing.T) {
	for _, n := range []int{15, 16, 17, 18, 31, 32, 33, 64, 65, 256, 257, 1 << 16} {
		for _, kind := range kinds() {
			checkLetter(t, post(kind, 0, 1, 2, upTo(n)...))
			checkLetter(t, post(kind, 0, 1, 2, slices.Repeat([]int{0}, n)...))
			checkLetter(t, post(kind, 0, 1, 2, append(upTo(16), slices.Repeat([]int{15}, n)...)...))
		}
	}
}

// Rule 6: no nodes may be told in two ways, which make no difference.
func TestNoNodes(t *testing.T) {
	for _, kind := range kinds() {
		a, b := post(kind, 1, 2, 3), post(kind, 1, 2, 3)
		a.Nodes, b.Nodes = nil, []int{}
		if !checkLetter(t, a) || !checkLetter(t, b) || encoded(t, a) != encoded(t, b) {
			t.Errorf("%v: %q and %q", a, encoded(t, a), encoded(t, b))
		}
		if !letter.Same(a, b) || !letter.Same(b, a) {
			t.Errorf("%v is not the same as with an empty list", a)
		}
	}
}

// P11.1 (E1): rows of Ints that are a letter's but for one number.
func TestDecodeNumbers(t *testing.T) {
	decoded := 0
	for _, base := range [][]int{{1, 2, 3, 4, 5}, {1, 0, 0, 0, 0}, {8, 15, 15, tx, 0}, {1, 15, 15, tx, 65535}} {
		for i := range base {
			for _, n := range edges() {
				l := slices.Clone(base)
				l[i] = n
				if checkCode(t, row(l...)) {
					decoded++
				}
			}
		}
	}
	if decoded < 100 {
		t.Errorf("only %d are decoded", decoded)
	}
	for kind := range 10 {
		for _, bits := range []int{0, 1, 2, 32768, 65535, 65536, 65537, -1, -65536} {
			checkCode(t, row(kind, 1, 2, 3, bits))
		}
	}
}

// P11.1 (E1): other counts of numbers.
func TestDecodeCount(t *testing.T) {
	for n := range 20 {
		checkCode(t, row(append([]int{1, 2, 3, 4, 5}, make([]int, 15)...)[:n]...))
		checkCode(t, row(slices.Repeat([]int{1}, n)...))
	}
}

// P11.1 (E1): values of other kinds, which stand for the same numbers or not.
func TestDecodeKinds(t *testing.T) {
	for _, base := range [][]int{{1, 1, 1, 1, 1}, {1, 0, 0, 0, 0}, {2, 1, 0, 1, 0}} {
		if !checkCode(t, row(base...)) {
			t.Errorf("%v is no letter", base)
		}
		for i, n := range base {
			for _, v := range []api.Value{{}, {Kind: api.Bool, N: int64(n % 2)}, {Kind: api.Dec, N: int64(n)}, {Kind: api.Dec, N: int64(n) * api.Scale}, {Kind: api.Text, S: string([]byte{byte('0' + n)})}, {Kind: api.Text}, {Kind: api.Bytes, S: string([]byte{byte(n)})}, {Kind: api.Bytes}} {
				l := make([]api.Value, len(base))
				for j, n := range base {
					l[j] = api.Value{Kind: api.Int, N: int64(n)}
				}
				l[i] = v
				b, e := rows.Encode(l)
				if e != api.OK {
					t.Fatalf("%v: %d", l, e)
				}
				checkCode(t, string(b))
				noLetter(t, string(b))
			}
		}
	}
}

// P11.1 (E1), P11.2: varints that are longer than they need to be, or too long.
func TestDecodeLong(t *testing.T) {
	base := []int{1, 2, 3, 4, 5}
	for i, n := range base {
		head, tail := "\x05", ""
		for j, m := range base {
			if j < i {
				head += "\x02" + varint(m)
			}
			if j > i {
				tail += "\x02" + varint(m)
			}
		}
		c := string([]byte{byte(2*n + 128)})
		if !checkCode(t, head+"\x02"+varint(n)+tail) {
			t.Errorf("%v is no letter", base)
		}
		for _, s := range []string{c + "\x00", c + "\x80\x00", c + strings.Repeat("\x80", 8) + "\x00", c + strings.Repeat("\x80", 8) + "\x02", c + strings.Repeat("\x80", 9) + "\x01"} {
			noLetter(t, head+"\x02"+s+tail)
		}
	}
}

// P11.1 (E1): no encoding begins another one, so that one that is cut short, or
// goes on, is none.
func TestDecodeCut(t *testing.T) {
	noLetter(t, "")
	for _, x := range examples() {
		for i := range len(x.code) {
			noLetter(t, x.code[:i])
			noLetter(t, x.code[i+1:])
		}
		for c := range 256 {
			noLetter(t, x.code+string([]byte{byte(c)}))
		}
		for _, y := range examples() {
			noLetter(t, x.code+y.code)
		}
	}
}

// P11.1 (E1), P11.2: encodings with one byte changed, added or left out are those
// of other letters, or none.
func TestNearCodes(t *testing.T) {
	decoded := 0
	for _, x := range examples() {
		for i := range len(x.code) + 1 {
			for c := range 256 {
				put := string([]byte{byte(c)})
				if checkCode(t, x.code[:i]+put+x.code[i:]) {
					decoded++
				}
				if i < len(x.code) && checkCode(t, x.code[:i]+put+x.code[i+1:]) {
					decoded++
				}
			}
			if i < len(x.code) {
				checkCode(t, x.code[:i]+x.code[i+1:])
			}
		}
	}
	if decoded < 1000 {
		t.Errorf("only %d are decoded", decoded)
	}
}

// P11.1 (E1), P11.2: all short bytes of those that count, as the numbers of a
// letter.
func TestAllShortCodes(t *testing.T) {
	decoded := 0
	for _, l := range lists([]int{0, 1, 2, 30, 31, 32, 128, 255}, 4) {
		s := ""
		for _, c := range l {
			s += string([]byte{byte(c)})
		}
		for _, x := range []string{s, "\x05" + s, "\x05\x02\x02\x02\x02\x02\x02\x02" + s, "\x05\x02\x02\x02\x02\x02\x02\x02\x02\x02" + s, "\x05\x02" + s + "\x02\x02\x02\x00", "\x05\x02\x04\x02" + s + "\x02\x00\x02\x00"} {
			if checkCode(t, x) {
				decoded++
			}
		}
	}
	if decoded < 50 {
		t.Errorf("only %d are decoded", decoded)
	}
}

// P11.2: Decode inverts Encode, and no two letters have one encoding.
func TestInverse(t *testing.T) {
	r := rand.New(rand.NewPCG(1, 2))
	seen := map[string]api.Letter{}
	for range 50000 {
		l := anyLetter(r)
		s := encoded(t, l)
		if x, e := letter.Decode([]byte(s)); e != api.OK || !equal(x, l) {
			t.Fatalf("the encoding %q of %v is decoded as %v, %d", s, l, x, e)
		}
		if x, ok := seen[s]; s != code(l) || ok && !equal(x, l) {
			t.Fatalf("%v and %v have the encoding %q", l, x, s)
		}
		seen[s] = l
	}
}

// P11.1 (E1): any two letters, valid or not, are the same just if all their parts
// are.
func TestSame(t *testing.T) {
	l := some()
	for _, nodes := range lists([]int{-1, 0, 1, 15, 16}, 3) {
		l = append(l, post(api.Prepare, 3, 4, 5, nodes...), post(-7, least, most, -1, nodes...))
	}
	same := 0
	for _, a := range l {
		for _, b := range l {
			if got := letter.Same(a, b); got != equal(a, b) {
				t.Fatalf("Same(%v, %v) = %v", a, b, got)
			} else if got {
				same++
			}
		}
	}
	if same < len(l) {
		t.Errorf("%d of %d are the same", same, len(l))
	}
}

// P11.1 (E1): each part by itself makes letters different, also where sums or
// other mixtures of the parts are alike.
func TestSameParts(t *testing.T) {
	a := post(api.Prepare, 1, 2, 3, 4, 5)
	for _, b := range []api.Letter{
		post(api.Yes, 1, 2, 3, 4, 5), post(api.Prepare, 2, 2, 3, 4, 5), post(api.Prepare, 1, 1, 3, 4, 5), post(api.Prepare, 1, 2, 4, 4, 5),
		post(api.Prepare, 2, 1, 3, 4, 5), post(api.Prepare, 1, 3, 2, 4, 5), post(api.Prepare, 1, 2, 3, 5, 4), post(api.Prepare, 1, 2, 3, 4, 6),
		post(api.Prepare, 1, 2, 3, 3, 5), post(api.Prepare, 1, 2, 3, 4), post(api.Prepare, 1, 2, 3, 5), post(api.Prepare, 1, 2, 3),
		post(api.Prepare, 1, 2, 3, 4, 5, 6), post(api.Prepare, 1, 2, 3, 4, 4, 5), post(api.Prepare, 1, 2, 3, 4, 5, 5), post(api.Prepare, 1, 2, 3, 0, 4, 5),
		post(api.Prepare+256, 1, 2, 3, 4, 5), post(api.Prepare, 1+1<<32, 2, 3, 4, 5), post(api.Prepare, 1, 2+1<<16, 3, 4, 5), post(api.Prepare, 1, 2, 3+1<<40, 4, 5), post(api.Prepare, 1, 2, 3, 4, 5+1<<32),
	} {
		if letter.Same(a, b) || letter.Same(b, a) || !letter.Same(b, b) {
			t.Errorf("%v and %v", a, b)
		}
	}
	if b := post(api.Prepare, 1, 2, 3, 4, 5); !letter.Same(a, b) {
		t.Errorf("%v and %v", a, b)
	}
}

// room is a copy of a list in memory that has more of it behind its end.
func room[T any](l []T, behind T) []T {
	return append(append(make([]T, 0, len(l)+3), l...), behind, behind, behind)[:len(l)]
}

// Rule 4: arguments are neither changed nor read behind their end.
func TestArguments(t *testing.T) {
	for _, x := range examples() {
		for _, behind := range []int{-1, 0, 15, 99} {
			l := x.letter
			l.Nodes = room(x.letter.Nodes, behind)
			if b, e := letter.Encode(l); !letter.Right(l) || e != api.OK || string(b) != x.code {
				t.Errorf("Encode(%v) = %q, %d", l, b, e)
			}
			if !letter.Same(l, x.letter) || !letter.Same(x.letter, l) {
				t.Errorf("%v is not the same as %v", l, x.letter)
			}
			if full := l.Nodes[:cap(l.Nodes)]; !slices.Equal(full[:len(l.Nodes)], x.letter.Nodes) || full[len(l.Nodes)] != behind {
				t.Errorf("%v is changed", x.letter)
			}
		}
		for _, behind := range []byte{0, 2, 255} {
			b := room([]byte(x.code), behind)
			if l, e := letter.Decode(b); e != api.OK || !equal(l, x.letter) {
				t.Errorf("Decode(%q) = %v, %d", b, l, e)
			}
			if full := b[:cap(b)]; string(full[:len(b)]) != x.code || full[len(b)] != behind {
				t.Errorf("%q is changed", x.code)
			}
			cut := room([]byte(x.code)[:len(x.code)-1], x.code[len(x.code)-1])
			if l, e := letter.Decode(cut); e != api.ErrLetter || !equal(l, api.Letter{}) {
				t.Errorf("Decode(%q) = %v, %d", cut, l, e)
			}
		}
	}
}

// Rule 4: results are new memory, which no later call hands out or reads.
func TestNewMemory(t *testing.T) {
	for _, x := range examples() {
		l := x.letter
		l.Nodes = slices.Clone(x.letter.Nodes)
		b, _ := letter.Encode(l)
		first, _ := letter.Decode(b)
		second, _ := letter.Decode(b)
		for i := range l.Nodes {
			l.Nodes[i] = 99
			first.Nodes[i] = -99
		}
		if string(b) != x.code || !equal(second, x.letter) {
			t.Errorf("%v: %q, %v after others were changed", x.letter, b, second)
		}
		clear(b)
		if !equal(second, x.letter) || encoded(t, second) != x.code {
			t.Errorf("%v: %v after the bytes were changed", x.letter, second)
		}
		if y, e := letter.Decode([]byte(x.code)); e != api.OK || !equal(y, x.letter) {
			t.Errorf("Decode(%q) = %v, %d after an answer was changed", x.code, y, e)
		}
	}
}

// P1: what is too long to be of any use is refused in time.
func TestLong(t *testing.T) {
	const n = 1 << 22
	for _, c := range []byte{0, 1, 2, 5, 128, 255} {
		noLetter(t, string(bytes.Repeat([]byte{c}, n)))
		noLetter(t, "\x05\x02"+string(bytes.Repeat([]byte{c}, n)))
		noLetter(t, examples()[0].code+string(bytes.Repeat([]byte{c}, n)))
	}
	a, b := post(api.Prepare, 0, 1, 2, make([]int, n)...), post(api.Prepare, 0, 1, 2, upTo(n)...)
	for _, l := range []api.Letter{a, b} {
		if x, e := letter.Encode(l); letter.Right(l) || e != api.ErrLetter || len(x) != 0 {
			t.Errorf("Encode of a letter with many nodes: %d bytes, %d", len(x), e)
		}
	}
	if letter.Same(a, b) || !letter.Same(a, a) {
		t.Error("letters with many nodes are taken for others")
	}
}

// outcomes are those of calls with right and wrong arguments, as text.
func outcomes() []string {
	var l []string
	for _, x := range some() {
		b, e := letter.Encode(x)
		back, wrong := letter.Decode(b)
		l = append(l, fmt.Sprint(letter.Right(x), b, e, back, wrong, letter.Same(x, back)))
	}
	for _, x := range examples() {
		for i := range len(x.code) + 1 {
			a, e := letter.Decode([]byte(x.code[:i]))
			l = append(l, fmt.Sprint(a, e))
		}
	}
	return l
}

// P1, P2: no call panics, and calls that came before, or go on meanwhile, change
// no answer.
func TestSameAgain(t *testing.T) {
	first := outcomes()
	again := make([][]string, 4)
	var wait sync.WaitGroup
	for i := range again {
		wait.Go(func() { again[i] = outcomes() })
	}
	wait.Wait()
	for _, l := range again {
		if !slices.Equal(l, first) {
			t.Error("the same calls have other answers")
		}
	}
}

// The example of README.md.
func TestReadmeExample(t *testing.T) {
	l := api.Letter{Kind: api.Prepare, From: 1, To: 15, Tx: 300, Nodes: []int{0, 3, 15}}
	b, e := letter.Encode(l)
	if len(b) != 14 || string(b) != examples()[1].code || e != api.OK {
		t.Errorf("%q, %d", b, e)
	}
	x, e := letter.Decode(b)
	if !letter.Same(x, l) || e != api.OK {
		t.Errorf("%v, %d", x, e)
	}
	if x, e = letter.Decode(b[:13]); e != api.ErrLetter || !equal(x, api.Letter{}) {
		t.Errorf("%v, %d", x, e)
	}
	l.Kind = api.Yes
	if letter.Right(l) {
		t.Errorf("%v is right", l)
	}
	if b, e = letter.Encode(l); e != api.ErrLetter || len(b) != 0 {
		t.Errorf("%q, %d", b, e)
	}
}
