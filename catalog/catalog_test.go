package catalog_test

import (
	"fmt"
	"math"
	"math/rand/v2"
	"slices"
	"strconv"
	"strings"
	"sync"
	"testing"
	"unsafe"

	"frankpledge/api"
	"frankpledge/catalog"
	"frankpledge/fault"
)

// model is what the document says of a catalog: the tables that were added, in order.
type model []api.Table

// add is what the document says of Add.
func (m *model) add(t api.Table) []flaw {
	if at, wrong := wrongTable(t); wrong {
		return []flaw{{api.ErrTable, -1}, {api.ErrTable, at}}
	}
	for _, x := range *m {
		if x.Name == t.Name {
			return []flaw{{api.ErrTwice, -1}}
		}
	}
	if len(*m) == 16 {
		return []flaw{{api.ErrFull, -1}}
	}
	t.Columns, t.Bounds = slices.Clone(t.Columns), slices.Clone(t.Bounds)
	*m = append(*m, t)
	return nil
}

// get is what the document says of Get.
func (m model) get(name string) (api.Table, []flaw) {
	for _, x := range m {
		if x.Name == name {
			return x, nil
		}
	}
	return api.Table{}, []flaw{{api.ErrNoTable, -1}}
}

// follow adds a table to a catalog and to the model.
func (m *model) follow(t *testing.T, c *catalog.Catalog, x api.Table) {
	t.Helper()
	has(t, x, c.Add(x), m.add(x)...)
}

// check holds all that a catalog tells against the model; of the given names, too.
func (m model) check(t *testing.T, c *catalog.Catalog, others ...string) {
	t.Helper()
	var all []string
	for _, x := range m {
		all = append(all, x.Name)
	}
	slices.Sort(all)
	if got := c.Names(); !slices.Equal(got, all) {
		t.Fatalf("Names = %q, not %q", got, all)
	}
	for _, name := range append(others, all...) {
		want, f := m.get(name)
		got, e := c.Get(name)
		has(t, name, e, f...)
		if !same(got, want) {
			t.Fatalf("Get(%q) = %v, not %v", name, got, want)
		}
	}
}

// full is a catalog with so many tables, t0, t1, ..
func full(t *testing.T, m *model, count int) *catalog.Catalog {
	t.Helper()
	c := catalog.New()
	for i := range count {
		m.follow(t, c, plain("t"+strconv.Itoa(i)))
	}
	if len(*m) != count {
		t.Fatalf("%d tables, not %d", len(*m), count)
	}
	return c
}

// P18.1 (A1): a new catalog is empty, and each one is another one.
func TestNew(t *testing.T) {
	c := catalog.New()
	model{}.check(t, c, "t", "")
	has(t, "Add", c.Add(plain("t")))
	model{}.check(t, catalog.New(), "t", "")
	model{plain("t")}.check(t, c, "")
}

// A catalog that no call made is an empty one.
func TestZero(t *testing.T) {
	var c catalog.Catalog
	m := model{}
	m.check(t, &c, "t", "")
	m.follow(t, &c, api.Table{})
	m.check(t, &c, "t", "")
	m.follow(t, &c, plain("t"))
	m.check(t, &c, "")
}

// P18.1 (A1): all calls by hand.
func TestCalls(t *testing.T) {
	c := catalog.New()
	other := bounded(api.Dec, decimal(-5), decimal(5))
	has(t, "t", c.Add(plain("t")))
	has(t, "t again", c.Add(plain("t")), flaw{api.ErrTwice, -1})
	has(t, "another t", c.Add(other), flaw{api.ErrTwice, -1})
	other.Name = "s"
	has(t, "s", c.Add(other))
	has(t, "t1", c.Add(variant(func(x *api.Table) { x.Name, x.Parts = "t1", 64 })))
	if got := c.Names(); !slices.Equal(got, []string{"s", "t", "t1"}) {
		t.Errorf("Names = %q", got)
	}
	if got, e := c.Get("s"); !same(got, other) || e != nil {
		t.Errorf("Get(s) = %v, %v", got, e)
	}
	if got, e := c.Get("t1"); got.Parts != 64 || e != nil {
		t.Errorf("Get(t1) = %v, %v", got, e)
	}
	for _, name := range []string{"", "T", "t2", "t ", "tt", "\x00", strings.Repeat("t", 1<<20)} {
		got, e := c.Get(name)
		has(t, name, e, flaw{api.ErrNoTable, -1})
		if !same(got, api.Table{}) {
			t.Errorf("Get(%q) = %v", name, got)
		}
	}
}

// P18.1 (A1): the fault of a table that is not valid wraps that of Right.
func TestAddInvalid(t *testing.T) {
	c := catalog.New()
	for _, x := range bad() {
		has(t, x, c.Add(x), flaw{api.ErrTable, -1}, flaw{api.ErrTable, -1})
	}
	for i := range 16 {
		x := wide(16)
		x.Columns[i].Must = false
		e := c.Add(x)
		has(t, x, e, flaw{api.ErrTable, -1}, flaw{api.ErrTable, i})
		if fault.Deep(e) != 2 {
			t.Errorf("the depth is %d", fault.Deep(e))
		}
	}
	model{}.check(t, c, "t", "wide", "")
}

// P18.1 (A1): all valid tables come back as they were added.
func TestGetAll(t *testing.T) {
	for _, x := range good() {
		c := catalog.New()
		m := model{}
		m.follow(t, c, x)
		m.check(t, c, "zz")
		if len(m) != 1 {
			t.Errorf("%v isn't added", x)
		}
	}
}

// P18.1 (A1): names by their bytes: digits, then _, then letters.
func TestNames(t *testing.T) {
	want := []string{"a", "a0", "a00", "a9", "a_", "a_a", "aa", "aaaaaaaaaaaaaaaaaaaa", "ab", "b", "b_", "ba", "select", "x9", "x_", "z"}
	r := rand.New(rand.NewPCG(11, 12))
	for range 100 {
		c := catalog.New()
		for _, i := range r.Perm(len(want)) {
			has(t, want[i], c.Add(plain(want[i])))
		}
		if got := c.Names(); !slices.Equal(got, want) {
			t.Fatalf("Names = %q", got)
		}
	}
}

// P18.1 (A1): there are 16 tables at most.
func TestFull(t *testing.T) {
	m := model{}
	c := full(t, &m, 15)
	m.follow(t, c, plain("last"))
	if len(m) != 16 {
		t.Fatal("no room for the last one")
	}
	for range 3 {
		has(t, "one more", c.Add(plain("u")), flaw{api.ErrFull, -1})
		m.check(t, c, "u", "t15")
	}
}

// P18.1 (A1): the first of the faults that apply.
func TestFaultOrder(t *testing.T) {
	m := model{}
	c := full(t, &m, 16)
	has(t, "there", c.Add(plain("t3")), flaw{api.ErrTwice, -1})
	has(t, "not valid", c.Add(plain("T")), flaw{api.ErrTable, -1}, flaw{api.ErrTable, -1})
	x := plain("t3")
	x.Columns[1].Name = "a"
	has(t, "there, and not valid", c.Add(x), flaw{api.ErrTable, -1}, flaw{api.ErrTable, 1})
	x.Name = "u"
	has(t, "no room, and not valid", c.Add(x), flaw{api.ErrTable, -1}, flaw{api.ErrTable, 1})
	m.check(t, c, "u", "T")
}

// P18.1: no catalog.
func TestNil(t *testing.T) {
	var c *catalog.Catalog
	for _, x := range append(good(), bad()...) {
		has(t, x, c.Add(x), flaw{api.ErrArg, -1})
		got, e := c.Get(x.Name)
		has(t, x.Name, e, flaw{api.ErrArg, -1})
		if !same(got, api.Table{}) {
			t.Errorf("Get = %v", got)
		}
	}
	if got := c.Names(); len(got) != 0 {
		t.Errorf("Names = %q", got)
	}
}

// P18.1 (A1), rule 3: all short lists of tables: those that can't be added change
// nothing.
func TestAllShortHistories(t *testing.T) {
	wrong := plain("u")
	wrong.Columns[0].Must = false
	all := []api.Table{plain("t"), bounded(api.Int, whole(1)), plain("u"), wrong, plain("s"), plain("T"), {}}
	count := 0
	var each func(steps []api.Table)
	each = func(steps []api.Table) {
		c, m := catalog.New(), model{}
		for _, x := range steps {
			m.follow(t, c, x)
			m.check(t, c, "t", "u", "s", "T", "")
		}
		count++
		if len(steps) < 5 {
			for _, x := range all {
				each(append(slices.Clone(steps), x))
			}
		}
	}
	each(nil)
	if count < 15000 {
		t.Errorf("only %d lists", count)
	}
}

// P18.1 (A1): long lists of any tables.
func TestLongHistories(t *testing.T) {
	r := rand.New(rand.NewPCG(13, 14))
	for range 200 {
		c, m := catalog.New(), model{}
		for range 60 {
			x := anyTable(r)
			x.Name = "t" + strconv.Itoa(r.IntN(24))
			if r.IntN(3) == 0 {
				x = spoil(r, x)
			}
			m.follow(t, c, x)
		}
		m.check(t, c, "t3", "t30", "u", "")
		if len(m) != 16 {
			t.Errorf("only %d tables", len(m))
		}
	}
}

// spare is a list with room behind its end, in which an item lies.
func spare[T any](l []T, behind T) []T {
	return append(append(make([]T, 0, len(l)+2), l...), behind)[:len(l)]
}

// overwrite fills a list with an item, and the room behind its end, too.
func overwrite[T any](l []T, x T) {
	for i := range l[:cap(l)] {
		l[:cap(l)][i] = x
	}
}

// Rule 4: Add keeps nothing of its argument, doesn't change it, and neither reads nor
// writes behind its end.
func TestAddArgument(t *testing.T) {
	for _, x := range good() {
		for _, behind := range []api.Value{{Kind: 6, N: 7}, whole(math.MinInt64), null} {
			y := x
			odd := api.Column{Name: "A", Kind: 9}
			y.Columns, y.Bounds = spare(x.Columns, odd), spare(x.Bounds, behind)
			c := catalog.New()
			has(t, x, c.Add(y))
			n, k := len(y.Columns), len(y.Bounds)
			if !same(y, x) || y.Columns[:n+1][n] != odd || y.Bounds[:k+1][k] != behind {
				t.Fatalf("the argument is now %v", y)
			}
			overwrite(y.Columns, odd)
			overwrite(y.Bounds, behind)
			model{x}.check(t, c, "zz")
		}
	}
}

// Rule 4: answers are new memory: whoever changes one changes no other, and not the
// catalog.
func TestNewMemory(t *testing.T) {
	x := bounded(api.Int, whole(1), whole(2))
	m := model{x, plain("u")}
	c := catalog.New()
	for _, y := range m {
		has(t, y, c.Add(y))
	}
	first, _ := c.Get("t")
	for range 3 {
		overwrite(c.Names(), "no")
		y, _ := c.Get("t")
		overwrite(y.Columns, api.Column{Name: "A"})
		overwrite(y.Bounds, text("a"))
		m.check(t, c, "no")
	}
	if !same(first, x) {
		t.Errorf("the first answer is now %v", first)
	}
}

// Rule 4: Row's answer is new memory, and neither Row nor Part changes an argument or
// reads behind its end.
func TestRowMemory(t *testing.T) {
	x := wide(5)
	x.Bounds = list(no, yes)
	for _, behind := range []api.Value{{Kind: 6}, null} {
		right := list(yes, whole(1), decimal(1), text("a"), bytes("a"))
		for key := 1; key <= 5; key++ {
			x.Key = key
			row := spare(right, behind)
			k, e := catalog.Row(x, row)
			p, f := catalog.Part(x, spare(k, behind))
			if !slices.Equal(row, right) || row[:6][5] != behind || e != nil || p != 2 || f != nil {
				t.Fatalf("the row is now %v, and its key in %d (%v, %v)", row, p, e, f)
			}
			overwrite(row, null)
			if !slices.Equal(k, right[:key]) {
				t.Errorf("the key is now %v", k)
			}
			row = spare(right, behind)
			k, _ = catalog.Row(x, row)
			overwrite(k, null)
			if !slices.Equal(row, right) || row[:6][5] != behind {
				t.Errorf("the row is now %v", row)
			}
		}
	}
}

// within tells whether a string lies in the memory of another one.
func within(s, other string) bool {
	at, from := uintptr(unsafe.Pointer(unsafe.StringData(s))), uintptr(unsafe.Pointer(unsafe.StringData(other)))
	return s != "" && at >= from && at < from+uintptr(len(other))
}

// Rule 4: texts are not kept, either: a short name would keep all of what it was cut
// from.
func TestTextMemory(t *testing.T) {
	all := strings.Repeat("abcdefgh", 100)
	x := api.Table{Name: all[:3], Columns: []api.Column{must(all[1:4], api.Text), may(all[2:5], api.Text)}, Key: 1, Bounds: list(text(all[3:8]))}
	c := catalog.New()
	has(t, x, c.Add(x))
	y, _ := c.Get("abc")
	k, _ := catalog.Row(x, list(text(all[:200]), text("")))
	for _, s := range []string{y.Name, y.Columns[0].Name, y.Columns[1].Name, y.Bounds[0].S, c.Names()[0], k[0].S} {
		if within(s, all) || s == "" {
			t.Errorf("%q is an argument's", s)
		}
	}
}

// history tells all that catalogs answer in a long list of calls, as text.
func history() []string {
	r := rand.New(rand.NewPCG(15, 16))
	var l []string
	for range 20 {
		c := catalog.New()
		for range 40 {
			x := anyTable(r)
			kind := x.Columns[0].Kind
			x.Name += strconv.Itoa(r.IntN(30))
			x = pick(r, x, x, spoil(r, x))
			e := c.Add(x)
			y, f := c.Get(x.Name)
			k, g := catalog.Row(x, list(oddValue(r, kind)))
			p, h := catalog.Part(x, list(oddValue(r, kind)))
			l = append(l, fmt.Sprint(e, y, f, k, g, p, h, catalog.Parts(x), c.Names()))
		}
	}
	return l
}

// P2: the same calls answer the same again, also when others call other catalogs at
// the same time.
func TestSameAgain(t *testing.T) {
	want := history()
	var group sync.WaitGroup
	for range 8 {
		group.Go(func() {
			if got := history(); !slices.Equal(got, want) {
				t.Error("the same calls answered something else")
			}
		})
	}
	group.Wait()
}

// The example of README.md.
func TestReadmeExample(t *testing.T) {
	c := catalog.New()
	x := api.Table{Name: "t", Columns: []api.Column{must("a", api.Int), may("b", api.Text)}, Key: 1, Bounds: list(whole(5), whole(9))}
	has(t, x, c.Add(x))
	k, e := catalog.Row(x, list(whole(7), null))
	if !slices.Equal(k, list(whole(7))) || e != nil {
		t.Errorf("Row = %v, %v", k, e)
	}
	if p, e := catalog.Part(x, k); p != 1 || catalog.Parts(x) != 3 || e != nil {
		t.Errorf("Part = %d, %v", p, e)
	}
	has(t, "null", rowFault(x, list(null, null)), flaw{api.ErrNull, 0})
	has(t, "again", c.Add(x), flaw{api.ErrTwice, -1})
	x.Name, x.Columns[0].Must = "u", false
	has(t, "u", c.Add(x), flaw{api.ErrTable, -1}, flaw{api.ErrTable, 0})
	if l := c.Names(); !slices.Equal(l, []string{"t"}) {
		t.Errorf("Names = %v", l)
	}
}
