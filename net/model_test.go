package net_test

import (
	"fmt"
	"math"
	"math/rand/v2"
	"slices"
	"testing"

	"frankpledge/api"
	"frankpledge/net"
)

// These are told apart from the program, from the document's words.

// post is a letter of its parts.
func post(kind api.LetterKind, from, to, tx int, nodes ...int) api.Letter {
	return api.Letter{Kind: kind, From: from, To: to, Tx: tx, Nodes: nodes}
}

// upTo are the first so many numbers.
func upTo(n int) []int {
	var l []int
	for i := range n {
		l = append(l, i)
	}
	return l
}

// valid is what the document says of valid letters (11).
func valid(l api.Letter) bool {
	for i, n := range l.Nodes {
		if n < 0 || n > 15 || i > 0 && l.Nodes[i-1] >= n {
			return false
		}
	}
	return l.Kind >= 1 && l.Kind <= 8 && l.From >= 0 && l.From <= 15 && l.To >= 0 && l.To <= 15 &&
		l.Tx >= 0 && l.Tx <= 1<<40 && (len(l.Nodes) == 0 || l.Kind == api.Prepare)
}

// equal compares letters field by field.
func equal(a, b api.Letter) bool {
	return a.Kind == b.Kind && a.From == b.From && a.To == b.To && a.Tx == b.Tx && slices.Equal(a.Nodes, b.Nodes)
}

// model is what the document says of a net: each letter that was ever sent or
// duplicated, and what became of it.
type model struct {
	all []fate
}

// fate is a letter, which is in transit, or was taken or lost.
type fate struct {
	letter api.Letter
	state  string
}

// step is a call on a net, with its argument.
type step struct {
	name   string
	letter api.Letter // of Send
	number int        // of the others
}

func send(l api.Letter) step { return step{name: "Send", letter: l} }
func take(number int) step   { return step{name: "Take", number: number} }
func twice(number int) step  { return step{name: "Twice", number: number} }
func lose(number int) step   { return step{name: "Lose", number: number} }
func look(number int) step   { return step{name: "Look", number: number} }

func (s step) String() string {
	if s.name == "Send" {
		return fmt.Sprintf("Send(%v)", s.letter)
	}
	return fmt.Sprintf("%s(%d)", s.name, s.number)
}

// outcome is what a call answers.
type outcome struct {
	number int
	letter api.Letter
	e      api.Errno
}

func (o outcome) same(p outcome) bool {
	return o.number == p.number && o.e == p.e && equal(o.letter, p.letter)
}

// do does a step on a net.
func do(n *net.Net, s step) (o outcome) {
	switch s.name {
	case "Send":
		o.number, o.e = n.Send(s.letter)
	case "Take":
		o.letter, o.e = n.Take(s.number)
	case "Twice":
		o.number, o.e = n.Twice(s.number)
	case "Lose":
		o.e = n.Lose(s.number)
	case "Look":
		o.letter, o.e = n.Look(s.number)
	}
	return o
}

// do does a step on the model, and tells what the document says of the answer.
func (m *model) do(s step) outcome {
	if s.name == "Send" {
		if !valid(s.letter) {
			return outcome{e: api.ErrLetter}
		}
		return m.add(s.letter)
	}
	if !m.has(s.number) {
		return outcome{e: api.ErrNoLetter}
	}
	x := &m.all[s.number]
	switch s.name {
	case "Twice":
		return m.add(x.letter)
	case "Lose":
		x.state = "lost"
		return outcome{}
	case "Take":
		x.state = "taken"
	}
	return outcome{letter: x.letter}
}

// has tells whether the letter of a number is in transit.
func (m *model) has(number int) bool {
	return number >= 0 && number < len(m.all) && m.all[number].state == "in transit"
}

// add puts a letter in transit, if there is room for it.
func (m *model) add(l api.Letter) outcome {
	if m.count("in transit") >= 1024 {
		return outcome{e: api.ErrFull}
	}
	l.Nodes = slices.Clone(l.Nodes)
	m.all = append(m.all, fate{l, "in transit"})
	return outcome{number: len(m.all) - 1}
}

// count is how many letters have a state.
func (m *model) count(state string) int {
	count := 0
	for _, x := range m.all {
		if x.state == state {
			count++
		}
	}
	return count
}

// numbers are those of the letters in transit that are chosen.
func (m *model) numbers(choose func(api.Letter) bool) []int {
	var l []int
	for i, x := range m.all {
		if x.state == "in transit" && choose(x.letter) {
			l = append(l, i)
		}
	}
	return l
}

// follow does a step on a net and on its model, and holds the answers against each
// other.
func (m *model) follow(t *testing.T, n *net.Net, s step) outcome {
	t.Helper()
	want, got := m.do(s), do(n, s)
	if !got.same(want) {
		t.Fatalf("%v = %v, not %v", s, got, want)
	}
	return got
}

// told is what Told is to tell.
func (m *model) told() [3]int {
	return [3]int{len(m.all), m.count("taken"), m.count("lost")}
}

// told is what it tells.
func told(n *net.Net) [3]int {
	sent, taken, lost := n.Told()
	return [3]int{sent, taken, lost}
}

// check holds all that a net tells against the model.
func (m *model) check(t *testing.T, n *net.Net) {
	t.Helper()
	m.checkTo(t, n, append(upTo(17), -1)...)
	m.checkAll(t, n)
}

// checkTo holds what a net tells of the letters to some nodes against the model.
func (m *model) checkTo(t *testing.T, n *net.Net, nodes ...int) {
	t.Helper()
	for _, node := range nodes {
		want := m.numbers(func(l api.Letter) bool { return l.To == node })
		if got := n.To(node); !slices.Equal(got, want) {
			t.Fatalf("To(%d) = %v, not %v", node, got, want)
		}
	}
}

// checkAll holds what a net tells of all letters against the model.
func (m *model) checkAll(t *testing.T, n *net.Net) {
	t.Helper()
	all := m.numbers(func(api.Letter) bool { return true })
	if got := n.Numbers(); !slices.Equal(got, all) {
		t.Fatalf("Numbers = %v, not %v", got, all)
	}
	if got := told(n); got != m.told() {
		t.Fatalf("Told = %v, not %v", got, m.told())
	}
	for number := -1; number <= len(m.all); number++ {
		m.follow(t, n, look(number))
	}
}

// examples are letters of all kinds, some of them at the limits.
func examples() []api.Letter {
	return []api.Letter{
		post(api.Prepare, 0, 1, 7), post(api.Prepare, 1, 15, 300, 0, 3, 15), post(api.Prepare, 15, 0, 1<<40, upTo(16)...),
		post(api.Prepare, 2, 3, 1, 0), post(api.Prepare, 2, 3, 1, 15), post(api.Prepare, 4, 4, 0, 4),
		post(api.Yes, 1, 0, 7), post(api.No, 2, 0, 7), post(api.ReadOnly, 7, 7, 8191), post(api.Commit, 0, 1, 7),
		post(api.Abort, 14, 15, 1<<40-1), post(api.Done, 15, 15, 1<<40), post(api.Ask, 0, 0, 0),
	}
}

// wrong are letters that are not valid, each in one part.
func wrong() []api.Letter {
	return []api.Letter{
		{}, post(0, 1, 2, 3), post(9, 1, 2, 3), post(-1, 1, 2, 3), post(257, 1, 2, 3),
		post(api.Yes, -1, 2, 3), post(api.Yes, 16, 2, 3), post(api.Yes, 1, -1, 3), post(api.Yes, 1, 16, 3),
		post(api.Yes, 1, 2, -1), post(api.Yes, 1, 2, 1<<40+1), post(api.Yes, 1, 2, math.MaxInt), post(api.Yes, 1, 2, math.MinInt),
		post(api.Yes, 1, 2, 3, 1), post(api.Ask, 1, 2, 3, 0, 1),
		post(api.Prepare, 1, 2, 3, 1, 1), post(api.Prepare, 1, 2, 3, 2, 1), post(api.Prepare, 1, 2, 3, 16), post(api.Prepare, 1, 2, 3, -1),
		post(api.Prepare, 1, 2, 3, append(upTo(16), 15)...),
	}
}

// anyLetter is a valid letter: the same ones in each run.
func anyLetter(r *rand.Rand) api.Letter {
	l := post(api.LetterKind(1+r.IntN(8)), r.IntN(16), r.IntN(16), r.IntN(1<<r.IntN(41)+1))
	for n := range 16 {
		if l.Kind == api.Prepare && r.IntN(2) == 0 {
			l.Nodes = append(l.Nodes, n)
		}
	}
	return l
}

// anyStep is a step on a net that had so many letters. Of a hundred steps, so many
// put a letter in transit.
func anyStep(r *rand.Rand, had, puts int) step {
	number := r.IntN(had+3) - 1
	if had > 0 && r.IntN(2) == 0 { // the last ones are more often in transit
		number = max(had-1-r.IntN(10), 0)
	}
	bad := wrong()
	switch c := r.IntN(100); {
	case c == 0:
		return send(bad[r.IntN(len(bad))])
	case c < puts*2/3:
		return send(anyLetter(r))
	case c < puts:
		return twice(number)
	case c < puts+(100-puts)/3:
		return lose(number)
	case c%10 == 0:
		return look(number)
	}
	return take(number)
}

// histories calls a function with all lists of so many steps.
func histories(all []step, most int, then func([]step)) {
	var grow func(l []step)
	grow = func(l []step) {
		then(l)
		if len(l) == most {
			return
		}
		for _, s := range all {
			grow(append(slices.Clone(l), s))
		}
	}
	grow(nil)
}
