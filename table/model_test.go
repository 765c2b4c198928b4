package table_test

import (
	"maps"
	"math"
	"math/rand/v2"
	"slices"
	"strconv"
	"testing"

	"frankpledge/table"
)

// model is what the document says of a table: each key's row.
type model map[string]string

// entry is a key with its row, to be held against another one.
type entry struct {
	key, row string
}

// step is a call that may change a table, with its arguments.
type step struct {
	name, key, row string
}

// outcome is what a call answers of a row.
type outcome struct {
	row string
	is  bool
}

// do does a step on a table.
func do(x *table.Table, s step) outcome {
	if s.name == "Put" {
		row, is := x.Put([]byte(s.key), []byte(s.row))
		return outcome{string(row), is}
	}
	row, is := x.Drop([]byte(s.key))
	return outcome{string(row), is}
}

// do does a step on the model, and tells what the document says of the answer.
func (m model) do(s step) outcome {
	row, is := m[s.key]
	if s.name == "Put" {
		m[s.key] = s.row
	} else {
		delete(m, s.key)
	}
	return outcome{row, is}
}

// follow does a step on a table and on its model, and holds the answers against
// each other.
func (m model) follow(t *testing.T, x *table.Table, s step) {
	t.Helper()
	want := m.do(s)
	if got := do(x, s); got != want {
		t.Fatalf("%.60q = %.60v, not %.60v", s, got, want)
	}
}

// inside tells whether a key is in a range: one without an end, if to is empty.
func inside(key, from, to string) bool {
	return key >= from && (to == "" || key < to)
}

// between are the model's entries in a range.
func (m model) between(from, to string) []entry {
	var l []entry
	for _, k := range slices.Sorted(maps.Keys(m)) {
		if inside(k, from, to) {
			l = append(l, entry{k, m[k]})
		}
	}
	return l
}

// texts are entries as texts.
func texts(l []table.Entry) []entry {
	var texts []entry
	for _, e := range l {
		texts = append(texts, entry{string(e.Key), string(e.Row)})
	}
	return texts
}

// checkGet holds the row of a key against the model.
func (m model) checkGet(t *testing.T, x *table.Table, key string) {
	t.Helper()
	row, is := m[key]
	got, has := x.Get([]byte(key))
	if string(got) != row || has != is {
		t.Fatalf("Get(%.60q) = %.60q, %v, not %.60q, %v", key, got, has, row, is)
	}
}

// checkRange holds the first entries of a range against the model.
func (m model) checkRange(t *testing.T, x *table.Table, from, to string, most int) {
	t.Helper()
	want := m.between(from, to)
	want = want[:max(0, min(most, len(want)))]
	got := texts(x.Range([]byte(from), []byte(to), most))
	if !slices.Equal(got, want) {
		t.Fatalf("Range(%.40q, %.40q, %d) = %.300q, not %.300q", from, to, most, got, want)
	}
}

// checkLast holds the last entry ahead of a key against the model.
func (m model) checkLast(t *testing.T, x *table.Table, to string) {
	t.Helper()
	var want entry
	l := m.between("", to)
	if len(l) > 0 {
		want = l[len(l)-1]
	}
	e, is := x.Last([]byte(to))
	if got := (entry{string(e.Key), string(e.Row)}); got != want || is != (len(l) > 0) {
		t.Fatalf("Last(%.60q) = %.60q, %v, not %.60q", to, got, is, want)
	}
}

// checkAll holds the number of entries, and all of them, against the model.
func (m model) checkAll(t *testing.T, x *table.Table) {
	t.Helper()
	if x.Len() != len(m) {
		t.Fatalf("Len = %d, not %d", x.Len(), len(m))
	}
	m.checkRange(t, x, "", "", math.MaxInt)
}

// check holds all that a table tells of some keys against the model.
func (m model) check(t *testing.T, x *table.Table, keys []string) {
	t.Helper()
	m.checkAll(t, x)
	for _, from := range keys {
		m.checkGet(t, x, from)
		m.checkLast(t, x, from)
		for _, to := range keys {
			for _, most := range []int{0, 1, 2, math.MaxInt} {
				m.checkRange(t, x, from, to, most)
			}
		}
	}
}

// few are keys of short tables, and keys that lie between these.
func few() []string { return []string{"", "\x00", "a", "a\x00", "ab", "b", "\xff", "\xff\xff"} }

// steps are all that matter to a table of few entries.
func steps() []step {
	var l []step
	for _, k := range []string{"", "a", "ab", "\xff"} {
		l = append(l, step{"Put", k, "row"}, step{"Drop", k, ""})
	}
	return append(l, step{"Put", "a", ""}, step{"Put", "a", "other"}, step{"Drop", "a\x00", ""})
}

// histories visits all lists of so many steps at the most.
func histories(most int, visit func(l []step)) {
	all := steps()
	var grow func(l []step)
	grow = func(l []step) {
		visit(l)
		for _, s := range all {
			if len(l) < most {
				grow(append(slices.Clip(l), s))
			}
		}
	}
	grow(nil)
}

// numbered is a key whose order is that of a number: the key of an odd number is
// longer than the one ahead, with which it begins.
func numbered(i int) string {
	half := i / 2
	k := string([]byte{byte(half >> 16), byte(half >> 8), byte(half)})
	if i%2 == 1 {
		return k + "\x00"
	}
	return k
}

// orders are so many numbers in several orders.
func orders(n int) map[string][]int {
	up := make([]int, n)
	for i := range up {
		up[i] = i
	}
	down := slices.Clone(up)
	slices.Reverse(down)
	var inward, outward []int
	for i := range up {
		if i%2 == 0 {
			inward = append(inward, i/2)
		} else {
			inward = append(inward, n-1-i/2)
		}
	}
	outward = slices.Clone(inward)
	slices.Reverse(outward)
	return map[string][]int{"up": up, "down": down, "inward": inward, "outward": outward, "any": rand.New(rand.NewPCG(uint64(n), 1)).Perm(n)}
}

// made is a table with the keys of some numbers, and its model.
func made(t *testing.T, numbers []int) (model, *table.Table) {
	t.Helper()
	m, x := model{}, table.New()
	for _, i := range numbers {
		m.follow(t, x, step{"Put", numbered(i), strconv.Itoa(i)})
	}
	return m, x
}

// sizes are numbers of entries that fill pages of several sizes, and others beside.
func sizes() []int {
	return []int{0, 1, 2, 3, 31, 32, 33, 63, 64, 65, 66, 127, 128, 129, 130, 191, 192, 193, 194, 255, 256, 257, 258, 400, 600}
}

// extremes are numbers far from those of a test's entries.
func extremes() []int {
	return []int{math.MinInt, math.MinInt + 1, math.MinInt32, -1000, -1, 1 << 20, math.MaxInt32, math.MaxInt - 1, math.MaxInt}
}
