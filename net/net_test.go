package net_test

import (
	"fmt"
	"math"
	"math/rand/v2"
	"slices"
	"sync"
	"testing"

	"frankpledge/api"
	"frankpledge/net"
)

// script does steps one by one, and holds each answer against the one by hand.
type script []struct {
	step
	want outcome
}

func (s script) run(t *testing.T) *net.Net {
	t.Helper()
	n := net.New()
	for i, x := range s {
		if got := do(n, x.step); !got.same(x.want) {
			t.Errorf("step %d: %v = %v, not %v", i, x.step, got, x.want)
		}
	}
	return n
}

func number(n int) outcome        { return outcome{number: n} }
func brings(l api.Letter) outcome { return outcome{letter: l} }
func fails(e api.Errno) outcome   { return outcome{e: e} }

// full is a net with so many letters in transit, the first of them with number 0.
func full(t *testing.T, m *model, count int) *net.Net {
	t.Helper()
	n := net.New()
	for i := range count {
		m.follow(t, n, send(post(api.Yes, i%16, i/16%16, i)))
	}
	return n
}

// P12.1 (O1): a new net has no letters, and each one is another one.
func TestNew(t *testing.T) {
	n := net.New()
	(&model{}).check(t, n)
	n.Send(post(api.Yes, 1, 2, 3))
	(&model{}).check(t, net.New())
	if got := do(net.New(), send(post(api.Yes, 1, 2, 3))); !got.same(number(0)) {
		t.Errorf("Send = %v", got)
	}
}

// A net that no call made is one without letters.
func TestZero(t *testing.T) {
	for _, first := range []step{send(post(api.Yes, 1, 2, 3)), send(api.Letter{}), take(0), twice(0), lose(0), look(0)} {
		var n net.Net
		m := &model{}
		m.check(t, &n)
		for _, s := range []step{first, send(post(api.No, 1, 2, 3)), twice(0), take(0), lose(1)} {
			m.follow(t, &n, s)
			m.check(t, &n)
		}
	}
}

// P12.1 (O1): all calls by hand.
func TestCalls(t *testing.T) {
	a, b, c := post(api.Prepare, 0, 1, 7, 1, 2), post(api.Yes, 1, 0, 7), post(api.Commit, 0, 2, 7)
	n := script{
		{send(a), number(0)},
		{send(b), number(1)},
		{look(0), brings(a)},
		{look(0), brings(a)},
		{twice(0), number(2)},
		{take(0), brings(a)},
		{take(0), fails(api.ErrNoLetter)},
		{look(0), fails(api.ErrNoLetter)},
		{twice(0), fails(api.ErrNoLetter)},
		{lose(0), fails(api.ErrNoLetter)},
		{look(2), brings(a)},
		{send(c), number(3)},
		{lose(1), outcome{}},
		{take(1), fails(api.ErrNoLetter)},
		{lose(1), fails(api.ErrNoLetter)},
		{twice(2), number(4)},
		{twice(4), number(5)},
		{lose(2), outcome{}},
		{take(5), brings(a)},
		{send(a), number(6)},
		{take(4), brings(a)},
		{look(3), brings(c)},
	}.run(t)
	if l := n.Numbers(); !slices.Equal(l, []int{3, 6}) {
		t.Errorf("Numbers = %v", l)
	}
	if l := n.To(1); !slices.Equal(l, []int{6}) {
		t.Errorf("To(1) = %v", l)
	}
	if l := n.To(0); len(l) != 0 {
		t.Errorf("To(0) = %v", l)
	}
	if got := told(n); got != [3]int{7, 3, 2} {
		t.Errorf("Told = %v", got)
	}
}

// P12.1 (O1), P12.2: letters of each kind arrive as they were sent, by each of the
// calls, and copies of copies, too.
func TestUnchanged(t *testing.T) {
	for _, l := range examples() {
		script{
			{send(l), number(0)},
			{twice(0), number(1)},
			{look(0), brings(l)},
			{take(0), brings(l)},
			{look(1), brings(l)},
			{twice(1), number(2)},
			{lose(1), outcome{}},
			{look(2), brings(l)},
			{take(2), brings(l)},
		}.run(t)
	}
}

// P12.1 (O1): letters that are not valid are not sent, and use up no number.
func TestSendInvalid(t *testing.T) {
	for _, l := range wrong() {
		n := script{
			{send(l), fails(api.ErrLetter)},
			{take(0), fails(api.ErrNoLetter)},
			{send(post(api.Yes, 1, 2, 3)), number(0)},
			{send(l), fails(api.ErrLetter)},
			{send(post(api.No, 1, 2, 3)), number(1)},
		}.run(t)
		if got := told(n); got != [3]int{2, 0, 0} {
			t.Errorf("Told = %v", got)
		}
	}
}

// P12.1 (O1): numbers that no letter has, or that none has any more.
func TestNoLetter(t *testing.T) {
	n := script{{send(post(api.Yes, 1, 2, 3)), number(0)}, {send(post(api.Yes, 1, 2, 3)), number(1)}, {take(1), brings(post(api.Yes, 1, 2, 3))}}.run(t)
	for _, k := range []int{-1, 1, 2, 3, 256, 1 << 32, 1 << 40, math.MaxInt, math.MinInt, -1 << 32} {
		for _, s := range []step{take(k), twice(k), lose(k), look(k)} {
			if got := do(n, s); !got.same(fails(api.ErrNoLetter)) {
				t.Errorf("%v = %v", s, got)
			}
		}
	}
	if got := told(n); got != [3]int{2, 1, 0} || !slices.Equal(n.Numbers(), []int{0}) {
		t.Errorf("Told = %v, Numbers = %v", got, n.Numbers())
	}
}

// P12.1 (O1): numbers go on in the order of sending and duplicating, and none comes
// again.
func TestNumbersGoOn(t *testing.T) {
	n := net.New()
	for i := range 5000 {
		s := send(post(api.Yes, i%16, 5, i))
		if i > 0 && i%3 == 0 {
			s = twice(i - 1)
		}
		if got := do(n, s); !got.same(number(i)) {
			t.Fatalf("%v = %v", s, got)
		}
		if i%2 == 0 && i > 0 {
			n.Take(i - 1)
			n.Lose(i - 2)
		}
	}
	if got := told(n); got[0] != 5000 || got[0] != got[1]+got[2]+len(n.Numbers()) {
		t.Errorf("Told = %v, and %d in transit", got, len(n.Numbers()))
	}
}

// P12.1 (O1): Numbers and To are increasing, whatever was taken and lost.
func TestIncreasing(t *testing.T) {
	r := rand.New(rand.NewPCG(1, 2))
	n, m := full(t, &model{}, 0), &model{}
	for range 1000 {
		m.follow(t, n, send(anyLetter(r)))
	}
	for i, k := range r.Perm(1000) {
		if i%2 == 0 {
			m.follow(t, n, take(k))
		} else {
			m.follow(t, n, lose(k))
		}
		if i%50 == 0 || i > 990 {
			m.check(t, n)
		}
	}
	m.check(t, n)
}

// P12.1 (O1): To tells of the node that a letter goes to, not of those that it
// comes from or names.
func TestTo(t *testing.T) {
	n := net.New()
	for from := range 16 {
		for to := range 16 {
			n.Send(post(api.Prepare, from, to, 3, upTo(16)...))
		}
	}
	for node := range 16 {
		var want []int
		for from := range 16 {
			want = append(want, 16*from+node)
		}
		if got := n.To(node); !slices.Equal(got, want) {
			t.Errorf("To(%d) = %v", node, got)
		}
	}
	for _, node := range []int{-1, 16, 17, 256, 1 << 32, math.MaxInt, math.MinInt} {
		if got := n.To(node); len(got) != 0 {
			t.Errorf("To(%d) = %v", node, got)
		}
	}
	n.Take(0)
	n.Lose(16)
	if got := n.To(0); len(got) != 14 || got[0] != 32 {
		t.Errorf("To(0) = %v", got)
	}
	empty := net.New()
	empty.Send(post(api.Yes, 0, 5, 0))
	if got := empty.To(0); len(got) != 0 {
		t.Errorf("To(0) = %v", got)
	}
}

// P12.1 (O1): at MaxLetters in transit there is no room, until one is taken or
// lost; what came and went doesn't count.
func TestFull(t *testing.T) {
	m := &model{}
	n := full(t, m, 1023)
	if got := m.follow(t, n, twice(5)); !got.same(number(1023)) {
		t.Errorf("Twice = %v", got)
	}
	for _, free := range []step{take(7), lose(8), take(1023), lose(1024), take(0)} {
		for _, s := range []step{send(post(api.Yes, 1, 2, 3)), twice(6), twice(1022)} {
			if got := m.follow(t, n, s); !got.same(fails(api.ErrFull)) {
				t.Errorf("%v = %v", s, got)
			}
		}
		m.check(t, n)
		m.follow(t, n, look(100))
		m.follow(t, n, free)
		if got := m.follow(t, n, send(post(api.No, 2, 3, 4))); got.e != api.OK {
			t.Errorf("after %v: %v", free, got)
		}
	}
	m.follow(t, n, lose(20))
	if got := m.follow(t, n, twice(21)); !got.same(number(1029)) {
		t.Errorf("Twice = %v", got)
	}
	m.check(t, n)
	for i := range 1024 {
		m.follow(t, n, take(i))
		m.follow(t, n, twice(1029))
	}
	m.check(t, n)
}

// P12.1 (O1): the first of the errors that apply.
func TestErrorOrder(t *testing.T) {
	n := full(t, &model{}, 1024)
	for _, l := range wrong() {
		if got := do(n, send(l)); !got.same(fails(api.ErrLetter)) {
			t.Errorf("Send(%v) = %v", l, got)
		}
	}
	for _, k := range []int{-1, 1024, math.MaxInt, math.MinInt} {
		if got := do(n, twice(k)); !got.same(fails(api.ErrNoLetter)) {
			t.Errorf("Twice(%d) = %v", k, got)
		}
	}
}

// P12.1 (O1): no net.
func TestNil(t *testing.T) {
	var n *net.Net
	for _, l := range append(examples(), wrong()...) {
		if got := do(n, send(l)); !got.same(fails(api.ErrArg)) {
			t.Errorf("Send = %v", got)
		}
	}
	for _, k := range []int{0, 1, -1, math.MaxInt, math.MinInt} {
		for _, s := range []step{take(k), twice(k), lose(k), look(k)} {
			if got := do(n, s); !got.same(fails(api.ErrArg)) {
				t.Errorf("%v = %v", s, got)
			}
		}
		if l := n.To(k); len(l) != 0 {
			t.Errorf("To(%d) = %v", k, l)
		}
	}
	if got := told(n); got != [3]int{} || len(n.Numbers()) != 0 {
		t.Errorf("Told = %v, Numbers = %v", got, n.Numbers())
	}
}

// P12.1 (O1): all short lists of steps, with all that may be told of the net.
func TestAllShortHistories(t *testing.T) {
	all := []step{send(post(api.Prepare, 0, 1, 7, 1, 3)), send(post(api.Yes, 1, 0, 7)), send(api.Letter{})}
	for k := range 3 {
		all = append(all, take(k), twice(k), lose(k))
	}
	count := 0
	histories(all, 5, func(steps []step) {
		n, m := net.New(), &model{}
		for _, s := range steps {
			m.follow(t, n, s)
		}
		m.checkTo(t, n, 0, 1, 2)
		m.checkAll(t, n)
		count++
	})
	if count < 250000 {
		t.Errorf("only %d histories", count)
	}
}

// P12.1 (O1): long lists of steps, some of which fill the net.
func TestLongHistories(t *testing.T) {
	r := rand.New(rand.NewPCG(3, 4))
	counts := map[api.Errno]int{}
	for _, puts := range []int{30, 50, 60, 80, 95} {
		n, m := net.New(), &model{}
		for i := range 4000 {
			counts[m.follow(t, n, anyStep(r, len(m.all), puts)).e]++
			if i%200 == 0 {
				m.check(t, n)
			}
		}
		m.check(t, n)
	}
	for _, e := range []api.Errno{api.OK, api.ErrLetter, api.ErrNoLetter, api.ErrFull} {
		if counts[e] < 100 {
			t.Errorf("error %d came %d times", e, counts[e])
		}
	}
}

// P12.2: what is taken was sent, as often as it was sent or duplicated and not lost;
// what is left is in transit. This keeps books of letters alone, without numbers.
func TestConservation(t *testing.T) {
	r := rand.New(rand.NewPCG(5, 6))
	for _, puts := range []int{40, 55, 90} {
		n := net.New()
		books, counts := map[string]int{}, [3]int{}
		for i := range 5000 {
			s := anyStep(r, counts[0], puts)
			before, seen := n.Look(s.number)
			o := do(n, s)
			if o.e != api.OK {
				continue
			}
			switch s.name {
			case "Send":
				books[fmt.Sprint(s.letter)]++
				counts[0]++
			case "Twice":
				books[fmt.Sprint(before)]++
				counts[0]++
			case "Take":
				books[fmt.Sprint(o.letter)]--
				counts[1]++
			case "Lose":
				books[fmt.Sprint(before)]--
				counts[2]++
			}
			if s.name != "Send" && seen != api.OK {
				t.Fatalf("%v = %v, but Look: %d", s, o, seen)
			}
			if i%100 == 0 {
				checkBooks(t, n, books, counts)
			}
		}
		checkBooks(t, n, books, counts)
	}
}

// checkBooks fails unless just the letters that the books have are in transit.
func checkBooks(t *testing.T, n *net.Net, books map[string]int, counts [3]int) {
	t.Helper()
	left := map[string]int{}
	for _, k := range n.Numbers() {
		l, e := n.Look(k)
		if e != api.OK {
			t.Fatalf("Look(%d) = %d", k, e)
		}
		left[fmt.Sprint(l)]++
	}
	for l, count := range books {
		if left[l] != count {
			t.Fatalf("of %s, %d are left, not %d", l, left[l], count)
		}
	}
	for l := range left {
		if books[l] == 0 {
			t.Fatalf("%s was not sent", l)
		}
	}
	if got := told(n); got != counts || counts[0]-counts[1]-counts[2] != len(n.Numbers()) {
		t.Fatalf("Told = %v, not %v; %d are in transit", got, counts, len(n.Numbers()))
	}
}

// Rule 3: a call with an error changes nothing, nor does one that only tells.
func TestErrorsChangeNothing(t *testing.T) {
	for _, count := range []int{0, 1, 5, 1023, 1024} {
		m := &model{}
		n := full(t, m, count)
		for _, l := range wrong() {
			m.follow(t, n, send(l))
		}
		for _, k := range []int{-1, count, count + 1} {
			for _, s := range []step{take(k), twice(k), lose(k), look(k)} {
				m.follow(t, n, s)
			}
		}
		for range 3 {
			m.check(t, n)
		}
		m.follow(t, n, send(post(api.Done, 1, 2, 3)))
		m.follow(t, n, take(0))
		m.follow(t, n, send(post(api.Done, 1, 2, 3)))
		m.check(t, n)
	}
}

// Rule 4: Send keeps nothing of its argument, doesn't change it, and doesn't read
// behind its end.
func TestArguments(t *testing.T) {
	for _, count := range []int{0, 1, 3, 15} {
		for _, behind := range []int{-1, 0, 15, 99} {
			memory := append(append(make([]int, 0, count+2), upTo(count)...), behind, behind)
			l := post(api.Prepare, 1, 2, 3, memory[:count]...)
			n := net.New()
			n.Send(l)
			if !slices.Equal(memory[:count], upTo(count)) || memory[count] != behind || memory[count+1] != behind {
				t.Errorf("the argument is now %v", memory)
			}
			for i := range memory {
				memory[i] = 77
			}
			want := post(api.Prepare, 1, 2, 3, upTo(count)...)
			if got := do(n, look(0)); !got.same(brings(want)) {
				t.Errorf("Look = %v, not %v", got, want)
			}
			if got := do(n, take(0)); !got.same(brings(want)) {
				t.Errorf("Take = %v, not %v", got, want)
			}
		}
	}
}

// Rule 4: answers are new memory: whoever changes one changes no other, and not the
// net.
func TestNewMemory(t *testing.T) {
	want := post(api.Prepare, 1, 2, 3, 4, 5, 6)
	n := net.New()
	n.Send(want)
	n.Twice(0)
	n.Twice(1)
	spoil := func(l []int) {
		for i := range l[:cap(l)] {
			l[:cap(l)][i] = 99
		}
	}
	for range 3 {
		spoil(n.Numbers())
		spoil(n.To(2))
		for k := range 3 {
			l, _ := n.Look(k)
			spoil(l.Nodes)
		}
	}
	if a, b := n.Numbers(), n.To(2); !slices.Equal(a, upTo(3)) || !slices.Equal(b, upTo(3)) {
		t.Errorf("Numbers = %v, To = %v", a, b)
	}
	for k := range 3 {
		l, e := n.Take(k)
		if e != api.OK || !equal(l, want) {
			t.Errorf("Take(%d) = %v, %d", k, l, e)
		}
		spoil(l.Nodes)
	}
}

// Rule 4: answers stay as they are, whatever later calls do.
func TestAnswersStay(t *testing.T) {
	n := net.New()
	for range 5 {
		n.Send(post(api.Prepare, 1, 2, 3, 4, 5, 6))
	}
	numbers, to := n.Numbers(), n.To(2)
	seen, _ := n.Look(0)
	taken, _ := n.Take(0)
	for i := range 5 {
		n.Lose(i)
		n.Send(post(api.Prepare, 9, 9, 9, 9))
		n.Numbers()
		n.To(2)
		n.Look(i + 5)
	}
	if !slices.Equal(numbers, upTo(5)) || !slices.Equal(to, upTo(5)) {
		t.Errorf("Numbers = %v, To = %v", numbers, to)
	}
	if want := post(api.Prepare, 1, 2, 3, 4, 5, 6); !equal(seen, want) || !equal(taken, want) {
		t.Errorf("Look = %v, Take = %v", seen, taken)
	}
}

// history tells all that a net answers in a long list of steps, as text.
func history() []string {
	r := rand.New(rand.NewPCG(7, 8))
	n := net.New()
	var l []string
	for range 1000 {
		sent, taken, lost := n.Told()
		s := anyStep(r, sent, 60)
		l = append(l, fmt.Sprint(s, do(n, s), taken, lost, n.To(r.IntN(16))))
	}
	return append(l, fmt.Sprint(n.Numbers()))
}

// P2: the same calls answer the same again, also when others call other nets at the
// same time.
func TestSameAgain(t *testing.T) {
	want := history()
	var group sync.WaitGroup
	for range 8 {
		group.Go(func() {
			if got := history(); !slices.Equal(got, want) {
				t.Error("the same calls answered something else")
			}
		})
	}
	group.Wait()
}

// P1: many letters, and many calls on a full net, are done in time; what went is
// not kept.
func TestMany(t *testing.T) {
	n := full(t, &model{}, 1023)
	for i := range 300000 {
		k, e := n.Send(post(api.Prepare, 1, 2, i, 3, 4))
		if k != 1023+i || e != api.OK {
			t.Fatalf("Send = %d, %d", k, e)
		}
		if l, e := n.Take(k); l.Tx != i || e != api.OK {
			t.Fatalf("Take(%d) = %v, %d", k, l, e)
		}
	}
	for range 300 {
		if a, b := n.Numbers(), n.To(3); len(a) != 1023 || len(b) != 64 {
			t.Fatalf("%d letters, %d of them to 3", len(a), len(b))
		}
	}
	if got := told(n); got != [3]int{301023, 300000, 0} {
		t.Errorf("Told = %v", got)
	}
}

// The example of README.md.
func TestReadmeExample(t *testing.T) {
	n := net.New()
	a, b := post(api.Yes, 1, 0, 7), post(api.Yes, 2, 0, 7)
	if got := do(n, send(a)); !got.same(number(0)) {
		t.Errorf("Send = %v", got)
	}
	if got := do(n, send(b)); !got.same(number(1)) {
		t.Errorf("Send = %v", got)
	}
	if got := do(n, twice(0)); !got.same(number(2)) {
		t.Errorf("Twice = %v", got)
	}
	if got := do(n, lose(0)); !got.same(outcome{}) {
		t.Errorf("Lose = %v", got)
	}
	if got := n.To(0); !slices.Equal(got, []int{1, 2}) {
		t.Errorf("To = %v", got)
	}
	if got := do(n, take(2)); !got.same(brings(a)) {
		t.Errorf("Take = %v", got)
	}
	if got := do(n, take(2)); !got.same(fails(api.ErrNoLetter)) {
		t.Errorf("Take = %v", got)
	}
	if got := told(n); got != [3]int{3, 1, 1} {
		t.Errorf("Told = %v", got)
	}
}
