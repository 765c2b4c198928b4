package lock_test

import (
	"math/rand/v2"
	"slices"
	"strconv"
	"testing"

	"frankpledge/api"
	"frankpledge/lock"
)

// held is a lock whose keys are texts, to be held against another one.
type held struct {
	tx              int
	space, from, to string
	mode            api.Mode
}

func (x held) String() string {
	keys := strconv.Quote(x.from) + ".." + strconv.Quote(x.to)
	return strconv.Itoa(x.tx) + ":" + x.space + ":" + keys + ":" + strconv.Itoa(int(x.mode))
}

// of is a lock of space t.
func of(tx int, from, to string, mode api.Mode) held { return held{tx, "t", from, to, mode} }

func (x held) lock() lock.Lock {
	return lock.Lock{Tx: x.tx, Space: x.space, From: []byte(x.from), To: []byte(x.to), Mode: x.mode}
}

// texts are locks whose keys are texts.
func texts(l []lock.Lock) []held {
	var texts []held
	for _, x := range l {
		texts = append(texts, held{x.Tx, x.Space, string(x.From), string(x.To), x.Mode})
	}
	return texts
}

// has tells whether a key is in a range.
func (x held) has(key string) bool { return key >= x.from && (x.to == "" || key < x.to) }

// valid tells whether a range is valid, by the document's words.
func (x held) valid() bool { return x.from < x.to || x.to == "" }

// ends are the keys at which two ranges begin or end: of these, at least one is in
// both ranges if any key is, and in one range but not in the other one if any key
// is.
func ends(x, y held) []string { return []string{x.from, x.to, y.from, y.to} }

// conflict tells whether two locks do, by the document's words.
func conflict(x, y held) bool {
	common := slices.ContainsFunc(ends(x, y), func(k string) bool { return x.has(k) && y.has(k) })
	both := x.mode == 1 && y.mode == 1
	return x.tx != y.tx && x.space == y.space && common && !both
}

// conflicts tells whether a lock conflicts with any of some others.
func conflicts(x held, l []held) bool {
	for _, y := range l {
		if conflict(x, y) {
			return true
		}
	}
	return false
}

// covers tells whether a lock covers another one, by the document's words.
func covers(x, y held) bool {
	// A range without an end goes on behind all keys at which others end.
	outside := x.to != "" && y.to == ""
	for _, k := range ends(x, y) {
		outside = outside || y.has(k) && !x.has(k)
	}
	return x.tx == y.tx && x.space == y.space && !outside && (x.mode == y.mode || x.mode == 2)
}

// model is what the document says of a lock table.
type model struct {
	granted, waiting []held
}

// step is a call that may change a lock table, with its argument.
type step struct {
	name string
	lock held // of Drop and Cancel, the transaction alone
}

func ask(x held) step      { return step{"Ask", x} }
func dropOf(tx int) step   { return step{"Drop", held{tx: tx}} }
func cancelOf(tx int) step { return step{"Cancel", held{tx: tx}} }

func (s step) String() string { return s.name + "(" + s.lock.String() + ")" }

// outcome is what a call answers.
type outcome struct {
	granted bool
	e       api.Errno
	txs     []int
}

func (o outcome) same(p outcome) bool {
	return o.granted == p.granted && o.e == p.e && slices.Equal(o.txs, p.txs)
}

// do does a step on a lock table.
func do(l *lock.Locks, s step) outcome {
	switch s.name {
	case "Drop":
		return outcome{txs: l.Drop(s.lock.tx)}
	case "Cancel":
		return outcome{txs: l.Cancel(s.lock.tx)}
	}
	granted, e := l.Ask(s.lock.lock())
	return outcome{granted: granted, e: e}
}

// do does a step on the model, and tells what the document says of the answer.
func (m *model) do(s step) outcome {
	own := func(x held) bool { return x.tx == s.lock.tx }
	switch s.name {
	case "Drop":
		m.granted = slices.DeleteFunc(m.granted, own)
		m.waiting = slices.DeleteFunc(m.waiting, own)
		return outcome{txs: m.examine()}
	case "Cancel":
		m.waiting = slices.DeleteFunc(m.waiting, own)
		return outcome{txs: m.examine()}
	}
	return m.ask(s.lock)
}

// ask goes through the cases of the document, one after the other.
func (m *model) ask(x held) outcome {
	if !x.valid() || x.mode != 1 && x.mode != 2 {
		return outcome{e: api.ErrArg}
	}
	for _, y := range m.waiting {
		if y.tx == x.tx {
			return outcome{e: api.ErrWaits}
		}
	}
	for _, y := range m.granted {
		if covers(y, x) {
			return outcome{granted: true}
		}
	}
	if len(m.granted)+len(m.waiting) >= 1024 {
		return outcome{e: api.ErrFull}
	}
	if conflicts(x, m.granted) || conflicts(x, m.waiting) {
		m.waiting = append(m.waiting, x)
		return outcome{}
	}
	m.granted = append(m.granted, x)
	return outcome{granted: true}
}

// examine grants the first lock that may be, and those behind it.
func (m *model) examine() []int {
	for i := 0; i < len(m.waiting); i++ {
		x := m.waiting[i]
		if !conflicts(x, m.granted) && !conflicts(x, m.waiting[:i]) {
			m.waiting = slices.Delete(m.waiting, i, i+1)
			m.granted = append(m.granted, x)
			return append([]int{x.tx}, m.examine()...)
		}
	}
	return nil
}

// of are the granted locks of a transaction.
func (m *model) of(tx int) []held {
	return slices.DeleteFunc(slices.Clone(m.granted), func(x held) bool { return x.tx != tx })
}

// follow does a step on a lock table and on its model, and holds the answers
// against each other.
func (m *model) follow(t *testing.T, l *lock.Locks, s step) outcome {
	t.Helper()
	want, got := m.do(s), do(l, s)
	if !got.same(want) {
		t.Fatalf("%v = %v, not %v", s, got, want)
	}
	return got
}

// check holds all that a lock table tells of some transactions against the model.
func (m *model) check(t *testing.T, l *lock.Locks, txs ...int) {
	t.Helper()
	for _, tx := range txs {
		if got, want := texts(l.Granted(tx)), m.of(tx); !slices.Equal(got, want) {
			t.Fatalf("Granted(%d) = %v, not %v", tx, got, want)
		}
	}
	if got := texts(l.Waiting()); !slices.Equal(got, m.waiting) {
		t.Fatalf("Waiting = %v, not %v", got, m.waiting)
	}
}

// checkPromises holds what a lock table tells against P9.2 and P9.3.
func checkPromises(t *testing.T, l *lock.Locks, txs ...int) {
	t.Helper()
	var granted []held
	for _, tx := range txs {
		granted = append(granted, texts(l.Granted(tx))...)
	}
	for i, x := range granted {
		if conflicts(x, granted[:i]) {
			t.Fatalf("%v is granted beside %v", x, granted)
		}
	}
	waiting := texts(l.Waiting())
	for i, x := range waiting {
		if !conflicts(x, granted) && !conflicts(x, waiting[:i]) {
			t.Fatalf("%v waits for nothing: %v, %v", x, granted, waiting)
		}
		if slices.ContainsFunc(waiting[:i], func(y held) bool { return y.tx == x.tx }) {
			t.Fatalf("transaction %d waits twice: %v", x.tx, waiting)
		}
	}
}

// histories visits all lists of so many steps at the most.
func histories(all []step, most int, visit func(l []step)) {
	var grow func(l []step)
	grow = func(l []step) {
		visit(l)
		for _, s := range all {
			if len(l) < most {
				grow(append(slices.Clip(l), s))
			}
		}
	}
	grow(nil)
}

// few are keys at which ranges begin and end, many of them the next one of another.
func few() []string {
	return []string{"", "\x00", "\x00\x00", "a", "a\x00", "ab", "b", "\xff", "\xff\xff"}
}

// more are keys that lie beside few ones, too.
func more() []string {
	var l []string
	for _, k := range few() {
		l = append(l, k, k+"\x00", k+"A", k+"\xff")
	}
	return append(l, "A", "aa", "c", "\xfe", "\xff\xff\xff\xff")
}

// ranges are all that begin and end at few keys, also those that are not valid.
func ranges() []held {
	var l []held
	for _, from := range few() {
		for _, to := range few() {
			l = append(l, of(0, from, to, 2))
		}
	}
	return l
}

// anyLock is a lock of one of some transactions, on a range that is not often wide.
func anyLock(r *rand.Rand, txs, keys int) held {
	key := func(i int) string { return string([]byte{byte(i >> 8), byte(i)}) }
	first := r.IntN(keys)
	x := held{r.IntN(txs), "t", key(first), key(first + 1 + r.IntN(3)), api.Mode(1 + r.IntN(2))}
	switch r.IntN(20) {
	case 0:
		x.to = ""
	case 1:
		x.from = ""
	case 2:
		x.space = "u"
	case 3:
		x.from, x.to = x.to, x.from
	case 4:
		x.from += "\x00"
	case 5:
		x.to += "\x00"
	case 6:
		x.mode = 1
		x.from, x.to = "", ""
	}
	return x
}

// anyStep is a step of one of some transactions: some lists of steps end more locks
// than others.
func anyStep(r *rand.Rand, txs, keys, end int) step {
	switch n := r.IntN(100); {
	case n < end:
		return dropOf(r.IntN(txs))
	case n < 2*end:
		return cancelOf(r.IntN(txs))
	}
	return ask(anyLock(r, txs, keys))
}

// upTo are the numbers from -1 up to, but without, one.
func upTo(n int) []int {
	l := []int{-1}
	for i := range n {
		l = append(l, i)
	}
	return l
}
