package catalog_test

import (
	"math"
	"math/rand/v2"
	"slices"
	"strconv"
	"strings"
	"testing"

	"frankpledge/api"
	"frankpledge/catalog"
)

func must(name string, k api.Kind) api.Column { return api.Column{Name: name, Kind: k, Must: true} }
func may(name string, k api.Kind) api.Column  { return api.Column{Name: name, Kind: k} }

// plain is a valid table with two columns, of which the first one is its key.
func plain(name string) api.Table {
	return api.Table{Name: name, Columns: []api.Column{must("a", api.Int), may("b", api.Text)}, Key: 1}
}

// wide is a valid table with so many columns, all in its key.
func wide(columns int) api.Table {
	t := api.Table{Name: "wide", Key: columns}
	for i := range columns {
		t.Columns = append(t.Columns, must("c"+strconv.Itoa(i), api.Kind(1+i%5)))
	}
	return t
}

// numbers are so many Ints, strictly increasing.
func numbers(count int) []api.Value {
	var l []api.Value
	for i := range count {
		l = append(l, whole(int64(3*i)))
	}
	return l
}

// variant is a plain table with something changed.
func variant(change func(*api.Table)) api.Table {
	t := plain("t")
	change(&t)
	return t
}

// bounded is a valid table, but for what its bounds may be, whose first column is
// of a kind.
func bounded(k api.Kind, l ...api.Value) api.Table {
	return api.Table{Name: "t", Columns: []api.Column{must("a", k), may("b", api.Text)}, Key: 1, Bounds: l}
}

// goodNames are names of tables and columns.
func goodNames() []string {
	return []string{"a", "z", "t1", "a_", "a__9", "abcdefghijklmnopqrst", "uvwxyz0123456789____", strings.Repeat("z", 19), strings.Repeat("a9", 10), "select", "null"}
}

// badNames are not.
func badNames() []string {
	l := []string{"", "A", "Z", "0", "9", "9a", "_", "_a", "aB", "a b", " a", "a ", "a-", "a.b", "a'", "é", "aé", "ä1", "\u212a", "a\u017f", "a٣", "\xff", "a\xff", "a\x00", "\x00",
		strings.Repeat("a", 21), strings.Repeat("a", 20) + "\x00", strings.Repeat("é", 10), strings.Repeat("a", 1<<20), "t\n", "\nt"}
	for c := range 256 {
		if names.MatchString("a" + string([]byte{byte(c)})) {
			continue
		}
		l = append(l, "a"+string([]byte{byte(c)}), string([]byte{byte(c)}), "a"+string([]byte{byte(c)})+"a")
	}
	return l
}

// good are valid tables, at the edges, too.
func good() []api.Table {
	l := []api.Table{plain("t"), wide(1), wide(2), wide(15), wide(16)}
	for _, name := range goodNames() {
		l = append(l, plain(name), variant(func(t *api.Table) { t.Columns[0].Name = name }), variant(func(t *api.Table) { t.Columns[1].Name = "x" + name[1:] }))
	}
	for _, parts := range []int{0, 1, 2, 63, 64} {
		l = append(l, variant(func(t *api.Table) { t.Parts = parts }))
		l = append(l, variant(func(t *api.Table) { t.Parts, t.Bounds = parts, []api.Value{} }))
	}
	for _, count := range []int{1, 2, 62, 63} {
		l = append(l, bounded(api.Int, numbers(count)...))
	}
	for k := api.Bool; k <= api.Bytes; k++ {
		l = append(l, bounded(k), variant(func(t *api.Table) { t.Columns[1].Kind = k }), variant(func(t *api.Table) { t.Columns[1].Must = true }))
	}
	return append(l,
		variant(func(t *api.Table) { t.Columns[1].Must, t.Key = true, 2 }),
		bounded(api.Bool, no), bounded(api.Bool, yes), bounded(api.Bool, no, yes),
		bounded(api.Int, whole(math.MinInt64), whole(-1), whole(0), whole(math.MaxInt64)),
		bounded(api.Dec, decimal(-1), decimal(0), decimal(1)),
		bounded(api.Text, text(""), text("\x00"), text("a"), text("a\x00"), text("aa"), text("b"), text("\xff")),
		bounded(api.Text, text(strings.Repeat("a", 199)), text(strings.Repeat("a", 200))),
		bounded(api.Bytes, bytes(""), bytes("\xff"), bytes(strings.Repeat("\xff", 200))),
	)
}

// bad are tables in which something other than a column is wrong.
func bad() []api.Table {
	l := []api.Table{{}, {Name: "t"}, {Name: "t", Key: 1}, {Name: "t", Key: 0, Parts: 4}, {Name: "t", Key: 1, Bounds: list(whole(1))}, wide(17), wide(1000)}
	for _, name := range badNames() {
		l = append(l, plain(name))
	}
	for _, key := range []int{0, -1, 3, 4, 16, 17, 1<<32 + 1, math.MaxInt, math.MinInt} {
		l = append(l, variant(func(t *api.Table) { t.Key = key }))
	}
	for _, parts := range []int{-1, 65, 66, 128, 1 << 32, 1<<32 + 1, math.MaxInt, math.MinInt} {
		l = append(l, variant(func(t *api.Table) { t.Parts = parts }))
	}
	for _, parts := range []int{-1, 1, 2, 64, 65} {
		l = append(l, variant(func(t *api.Table) { t.Parts, t.Bounds = parts, list(whole(1)) }))
	}
	for _, count := range []int{64, 65, 1000} {
		l = append(l, bounded(api.Int, numbers(count)...))
	}
	for _, v := range wrongValues() {
		l = append(l, bounded(v.Kind, v), bounded(api.Int, v), bounded(api.Int, whole(1), v), bounded(api.Text, text("a"), v))
	}
	kinds := []api.Value{null, no, whole(1), decimal(1), text("a"), bytes("a")}
	for k := api.Bool; k <= api.Bytes; k++ {
		for _, v := range kinds {
			if v.Kind != k {
				l = append(l, bounded(k, v), bounded(k, kinds[k], v), bounded(k, v, kinds[k]))
			}
		}
	}
	return append(l,
		bounded(api.Int, whole(1), whole(1)), bounded(api.Int, whole(2), whole(1)), bounded(api.Int, whole(1), whole(3), whole(2)), bounded(api.Int, whole(1), whole(2), whole(2)),
		bounded(api.Int, append(numbers(62), whole(0))...), bounded(api.Bool, yes, no), bounded(api.Bool, no, no), bounded(api.Dec, decimal(0), decimal(-1)),
		bounded(api.Text, text("a"), text("")), bounded(api.Text, text("b"), text("a")), bounded(api.Text, text("a\x00"), text("a")), bounded(api.Bytes, bytes("a"), bytes("a")),
		variant(func(t *api.Table) { t.Bounds = list(text("a")) }), // of the second column's kind
	)
}

// P18.1 (A1): valid tables.
func TestRight(t *testing.T) {
	for _, x := range good() {
		has(t, x, catalog.Right(x))
		if !checkRight(t, x) {
			t.Errorf("%v isn't valid for the model", x)
		}
	}
}

// P18.1 (A1): tables in which something other than a column is wrong, whatever their
// columns are.
func TestRightTable(t *testing.T) {
	for _, x := range bad() {
		has(t, x, catalog.Right(x), flaw{api.ErrTable, -1})
		checkRight(t, x)
		for i := range x.Columns {
			y := x
			y.Columns = slices.Clone(x.Columns)
			y.Columns[i].Name = ""
			has(t, y, catalog.Right(y), flaw{api.ErrTable, -1})
		}
	}
}

// P18.1 (A1): each way in which a column may be wrong, at each place, alone and with
// others behind it.
func TestRightColumn(t *testing.T) {
	ways := []func(l []api.Column, i int){
		func(l []api.Column, i int) { l[i].Name = "" },
		func(l []api.Column, i int) { l[i].Name = "C" },
		func(l []api.Column, i int) { l[i].Name = strings.Repeat("c", 21) },
		func(l []api.Column, i int) { l[i].Kind = api.Null },
		func(l []api.Column, i int) { l[i].Kind = 6 },
		func(l []api.Column, i int) { l[i].Kind = -1 },
		func(l []api.Column, i int) { l[i].Kind = math.MaxInt },
		func(l []api.Column, i int) { l[i].Kind = math.MinInt },
		func(l []api.Column, i int) { l[i].Must = false },
		func(l []api.Column, i int) { l[i].Name = l[(i+15)%16].Name },
		func(l []api.Column, i int) { l[i].Name = l[0].Name },
	}
	for _, name := range badNames() {
		ways = append(ways, func(l []api.Column, i int) { l[i].Name = name })
	}
	for i := range 16 {
		for n, way := range ways {
			x := wide(16)
			way(x.Columns, i)
			checkRight(t, x)
			for k := i; k < 16; k++ {
				ways[(n+k)%8](x.Columns, k)
				has(t, x, catalog.Right(x), flaw{api.ErrTable, i})
			}
		}
	}
}

// P18.1 (A1): two columns of the same name: the second one is wrong, also if others
// lie between.
func TestRightTwice(t *testing.T) {
	for k := range 16 {
		for i := range k {
			x := wide(16)
			x.Columns[k].Name = x.Columns[i].Name
			has(t, x, catalog.Right(x), flaw{api.ErrTable, k})
			x.Columns[15].Name = x.Columns[i].Name
			has(t, x, catalog.Right(x), flaw{api.ErrTable, k})
		}
	}
	x := plain("a")
	x.Columns[1].Name = "t"
	has(t, x, catalog.Right(x)) // a column may be named as its table, and as those of other tables
}

// P18.1 (A1): the columns of the key must be there, and only they.
func TestRightMust(t *testing.T) {
	for key := 1; key <= 16; key++ {
		for i := range 16 {
			x := wide(16)
			x.Key, x.Columns[i].Must = key, false
			if i < key {
				has(t, x, catalog.Right(x), flaw{api.ErrTable, i})
			} else {
				has(t, x, catalog.Right(x))
			}
		}
	}
}

// P18.1 (A1): bounds are of the kind of the first column, whether that is one that
// a column may have or not.
func TestRightBoundsOfNoKind(t *testing.T) {
	has(t, "null", catalog.Right(bounded(api.Null, null)), flaw{api.ErrTable, 0})
	has(t, "null twice", catalog.Right(bounded(api.Null, null, null)), flaw{api.ErrTable, -1})
	has(t, "no kind", catalog.Right(bounded(6, api.Value{Kind: 6})), flaw{api.ErrTable, -1})
	has(t, "no bounds", catalog.Right(bounded(6)), flaw{api.ErrTable, 0})
}

// P18.1 (A1): all small tables.
func TestAllSmallTables(t *testing.T) {
	var columns []api.Column
	for _, name := range []string{"a", "b", "B"} {
		for _, k := range []api.Kind{api.Null, api.Bool, api.Int, api.Bytes, 6} {
			columns = append(columns, must(name, k), may(name, k))
		}
	}
	var all [][]api.Column
	all = append(all, nil)
	for _, a := range columns {
		all = append(all, []api.Column{a})
		for _, b := range columns {
			all = append(all, []api.Column{a, b})
		}
	}
	bounds := [][]api.Value{nil, list(whole(5)), list(whole(5), whole(9)), list(whole(5), whole(5)), list(whole(9), whole(5)), list(null), list(no, yes), list(bytes("")), list(whole(5), no), list(api.Value{Kind: 6})}
	count, right := 0, 0
	for _, l := range all {
		for key := -1; key <= 3; key++ {
			for _, parts := range []int{-1, 0, 1, 64, 65} {
				for _, b := range bounds {
					for _, name := range []string{"t", "T"} {
						count++
						if checkRight(t, api.Table{Name: name, Columns: l, Key: key, Parts: parts, Bounds: b}) {
							right++
						}
					}
				}
			}
		}
	}
	if count < 400000 || right < 250 {
		t.Errorf("only %d tables, of which %d are valid", count, right)
	}
}

// P18.1 (A1): any tables, and those about them.
func TestNearTables(t *testing.T) {
	r := rand.New(rand.NewPCG(1, 2))
	places := map[int]int{}
	for range 50000 {
		x := anyTable(r)
		if !checkRight(t, x) {
			t.Fatalf("%v isn't valid", x)
		}
		for range 4 {
			x = spoil(r, x)
			checkRight(t, x)
			at, wrong := wrongTable(x)
			if !wrong {
				at = -2
			}
			places[at]++
		}
	}
	if places[-2] < 10000 || places[-1] < 10000 || places[0] < 1000 || places[1] < 1000 || places[5] < 100 {
		t.Errorf("places %v", places)
	}
}
