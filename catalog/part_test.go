package catalog_test

import (
	"hash/fnv"
	"math"
	"math/rand/v2"
	"slices"
	"strings"
	"testing"

	"frankpledge/api"
	"frankpledge/catalog"
)

// P18.1 (A1): the hash of bytes, by the numbers that FNV-1a is known by.
func TestHash(t *testing.T) {
	for s, want := range map[string]uint32{
		"": 0x811c9dc5, "a": 0xe40c292c, "b": 0xe70c2de5, "foobar": 0xbf9cf968, "\x00": 0x050c5d1f, "\x00\x00": 0x117697cd, "\xff": 0x7a0b824e,
		"chongo was here!\n": 0xd49930d5, "\x01\x00": 0xeb741d64, "\x01\x01": 0xec741ef7, "\x04\x00\xff\x00\x01": 0x7a5adc45,
	} {
		if got := catalog.Hash([]byte(s)); got != want {
			t.Errorf("Hash(%q) = %#x, not %#x", s, got, want)
		}
	}
	if catalog.Hash(nil) != 2166136261 {
		t.Error("the hash of nothing")
	}
}

// P18.1 (A1): the hash of all short bytes, of each byte, and of long ones.
func TestHashAll(t *testing.T) {
	check := func(b []byte) {
		t.Helper()
		h := fnv.New32a()
		h.Write(b)
		if got := catalog.Hash(b); got != h.Sum32() {
			t.Fatalf("Hash of %d bytes is %#x, not %#x", len(b), got, h.Sum32())
		}
	}
	for a := range 256 {
		check([]byte{byte(a)})
		for b := range 256 {
			check([]byte{byte(a), byte(b)})
			check([]byte{byte(a), byte(b), 0, 255})
		}
	}
	r := rand.New(rand.NewPCG(3, 4))
	for _, n := range []int{3, 4, 5, 100, 4096, 1 << 22} {
		b := make([]byte, n)
		check(b)
		for i := range b {
			b[i] = byte(r.IntN(256))
		}
		check(b)
	}
}

// P18.1 (A2): how many parts there are.
func TestParts(t *testing.T) {
	for _, x := range good() {
		want := x.Parts
		if want == 0 {
			want = 1 + len(x.Bounds)
		}
		if got := catalog.Parts(x); got != want {
			t.Errorf("Parts(%v) = %d, not %d", x, got, want)
		}
	}
	if catalog.Parts(plain("t")) != 1 || catalog.Parts(bounded(api.Int, numbers(63)...)) != 64 {
		t.Error("the fewest or the most")
	}
}

// P18.1 (A2): parts between bounds: a bound is in the part that it begins.
func TestPartBounds(t *testing.T) {
	x := bounded(api.Int, whole(-5), whole(0), whole(7))
	for n, want := range map[int64]int{math.MinInt64: 0, -6: 0, -5: 1, -4: 1, -1: 1, 0: 2, 1: 2, 6: 2, 7: 3, 8: 3, math.MaxInt64: 3} {
		if got, e := catalog.Part(x, list(whole(n))); got != want || e != nil {
			t.Errorf("Part(%d) = %d, %v, not %d", n, got, e, want)
		}
	}
	x = bounded(api.Text, text("a"), text("b"))
	for s, want := range map[string]int{"": 0, "A": 0, "a": 1, "a\x00": 1, "az": 1, "b": 2, "ba": 2, "\xff": 2} {
		if got, e := catalog.Part(x, list(text(s))); got != want || e != nil {
			t.Errorf("Part(%q) = %d, %v, not %d", s, got, e, want)
		}
	}
	for i, v := range []api.Value{no, yes} {
		for k, x := range []api.Table{bounded(api.Bool), bounded(api.Bool, no), bounded(api.Bool, yes), bounded(api.Bool, no, yes)} {
			want := []int{0, 1, i, 1 + i}[k]
			if got, e := catalog.Part(x, list(v)); got != want || e != nil {
				t.Errorf("Part(%v) of %v = %d, %v, not %d", v, x, got, e, want)
			}
		}
	}
}

// P18.1 (A2): the first value of a key alone counts for bounds, and all of them for
// the hash.
func TestPartValues(t *testing.T) {
	x := bounded(api.Int, whole(0))
	x.Columns[1].Must, x.Key = true, 2
	y := x
	y.Bounds, y.Parts = nil, 64
	found := map[int]bool{}
	for c := range 256 {
		k := list(whole(0), text(string([]byte{byte(c)})))
		if got, e := catalog.Part(x, k); got != 1 || e != nil {
			t.Errorf("Part(%v) = %d, %v", k, got, e)
		}
		checkPart(t, y, k)
		got, _ := catalog.Part(y, k)
		found[got] = true
	}
	if len(found) < 32 {
		t.Errorf("only %d parts of 64 are found", len(found))
	}
}

// P18.1 (A2): parts by the hash, which was reckoned elsewhere for the keys'
// encodings as they are in the document's words.
func TestPartHash(t *testing.T) {
	counts := []int{1, 2, 3, 7, 10, 63, 64}
	for _, x := range []struct {
		key  []api.Value
		want []int
	}{
		{list(no), []int{0, 0, 0, 4, 0, 39, 36}},
		{list(yes), []int{0, 1, 2, 2, 9, 2, 55}},
		{list(whole(0)), []int{0, 1, 1, 5, 5, 40, 37}},
		{list(whole(1)), []int{0, 0, 2, 0, 6, 14, 18}},
		{list(whole(-1)), []int{0, 1, 2, 3, 1, 17, 29}},
		{list(text("a")), []int{0, 1, 1, 1, 5, 43, 57}},
		{list(text("")), []int{0, 0, 1, 5, 8, 19, 56}},
		{list(text("\x00")), []int{0, 1, 0, 5, 1, 54, 5}},
		{list(whole(5), text("a")), []int{0, 0, 0, 1, 6, 15, 58}},
		{list(whole(5), text("b")), []int{0, 1, 2, 3, 7, 17, 63}},
	} {
		for i, parts := range counts {
			y := api.Table{Name: "t", Columns: []api.Column{must("a", x.key[0].Kind), must("b", api.Text)}, Key: len(x.key), Parts: parts}
			if got, e := catalog.Part(y, x.key); got != x.want[i] || e != nil {
				t.Errorf("Part(%v) of %d = %d, %v, not %d", x.key, parts, got, e, x.want[i])
			}
		}
	}
}

// P18.1 (A2), P18.2: any valid tables and keys, and those about them. With bounds,
// lesser first values are not in greater parts.
func TestPartAny(t *testing.T) {
	r := rand.New(rand.NewPCG(5, 6))
	counts := map[flaw]int{}
	for range 30000 {
		x := anyTable(r)
		var keys [][]api.Value
		for range 8 {
			var k []api.Value
			for i := range x.Key {
				if len(keys) < 4 {
					k = append(k, anyValue(r, x.Columns[i].Kind))
				} else {
					k = append(k, oddValue(r, x.Columns[i].Kind))
				}
			}
			if r.IntN(10) == 0 {
				k = pick(r, k[1:], nil, append(k, null), append(k, k...))
			}
			counts[checkPart(t, x, k)]++
			keys = append(keys, k)
		}
		checkUnique(t, x, keys)
	}
	for _, f := range []flaw{{}, {api.ErrKey, -1}, {api.ErrKey, 0}, {api.ErrKey, 1}, {api.ErrKey, 15}} {
		if counts[f] < 20 {
			t.Errorf("%v came %d times", f, counts[f])
		}
	}
}

// checkUnique fails unless P18.2 holds for a table's keys, by the answers alone.
func checkUnique(t *testing.T, x api.Table, keys [][]api.Value) {
	t.Helper()
	parts := catalog.Parts(x)
	for _, k := range keys {
		p, e := catalog.Part(x, k)
		if p < 0 || p >= parts {
			t.Fatalf("Part(%v, %v) = %d of %d", x, k, p, parts)
		}
		for _, l := range keys {
			q, other := catalog.Part(x, l)
			if e == nil && other == nil && x.Parts == 0 && ahead(k[0], l[0]) && p > q {
				t.Fatalf("%v: %v is in %d, and %v in %d", x, k, p, l, q)
			}
		}
	}
}

// P18.2: the values about each of as many bounds as there may be.
func TestPartAllBounds(t *testing.T) {
	for count := range 64 {
		x := bounded(api.Int, numbers(count)...)
		last := -1
		for n := int64(-2); n < int64(3*count+2); n++ {
			checkPart(t, x, list(whole(n)))
			p, _ := catalog.Part(x, list(whole(n)))
			if p < last || p >= catalog.Parts(x) {
				t.Fatalf("Part(%d) of %d bounds is %d, behind %d", n, count, p, last)
			}
			last = p
		}
		if last != count {
			t.Errorf("the last part of %d bounds is %d", count, last)
		}
	}
}

// P18.1 (A2): each number of parts.
func TestPartAllParts(t *testing.T) {
	for parts := 1; parts <= 64; parts++ {
		x := variant(func(t *api.Table) { t.Parts = parts })
		found := map[int]bool{}
		for n := range int64(2000) {
			checkPart(t, x, list(whole(n-1000)))
			p, _ := catalog.Part(x, list(whole(n-1000)))
			found[p] = true
		}
		if len(found) != parts {
			t.Errorf("only %d of %d parts have rows", len(found), parts)
		}
	}
}

// P18.1 (A2): keys that are none: how many values there are and whether they are
// valid comes ahead of their kinds.
func TestPartFaults(t *testing.T) {
	for _, divide := range []func(*api.Table){
		func(x *api.Table) {},
		func(x *api.Table) { x.Parts = 3 },
		func(x *api.Table) { x.Bounds = list(no) },
	} {
		x := wide(5)
		divide(&x)
		right := list(yes, whole(1), decimal(1), text("a"), bytes("a"))
		has(t, "right", checked(x, right))
		for _, k := range [][]api.Value{nil, {}, right[:4], append(slices.Clone(right), null), append(slices.Clone(right), right...), slices.Repeat(right, 100)} {
			has(t, k, checked(x, k), flaw{api.ErrKey, -1})
		}
		for i := range 5 {
			for _, v := range wrongValues() {
				k := slices.Clone(right)
				k[i] = v
				has(t, k, checked(x, k), flaw{api.ErrKey, -1})
				k[(i+1)%5] = null
				has(t, k, checked(x, k), flaw{api.ErrKey, -1})
			}
			for n, v := range append(right, null) {
				if n == i {
					continue
				}
				k := slices.Clone(right)
				k[i] = v
				has(t, k, checked(x, k), flaw{api.ErrKey, i})
				for m := i; m < 5; m++ {
					k[m] = null
					has(t, k, checked(x, k), flaw{api.ErrKey, i})
				}
			}
		}
	}
}

// checked is Part's error.
func checked(x api.Table, k []api.Value) error {
	_, e := catalog.Part(x, k)
	return e
}

// P18.1 (A2): the key of a row.
func TestRow(t *testing.T) {
	x := wide(5)
	for i := range x.Columns {
		x.Columns[i].Must = i < 2
	}
	full := list(yes, whole(1), decimal(1), text("a"), bytes("a"))
	for key := 1; key <= 2; key++ {
		x.Key = key
		for _, row := range [][]api.Value{full, list(no, whole(0), null, null, null), list(no, whole(-1), decimal(0), null, bytes(""))} {
			got, e := catalog.Row(x, row)
			if !slices.Equal(got, row[:key]) {
				t.Errorf("Row(%v) = %v", row, got)
			}
			has(t, row, e)
		}
	}
}

// rowFault is Row's error.
func rowFault(x api.Table, row []api.Value) error {
	_, e := catalog.Row(x, row)
	return e
}

// P18.1 (A2): rows that are none: all kinds come ahead of what must be there.
func TestRowFaults(t *testing.T) {
	x := wide(5)
	x.Key = 2
	x.Columns[3].Must = false
	right := list(yes, whole(1), decimal(1), text("a"), bytes("a"))
	has(t, "right", rowFault(x, right))
	for _, row := range [][]api.Value{nil, {}, right[:2], right[:4], append(slices.Clone(right), null), slices.Repeat(right, 100), {{Kind: 6}}, {null, null}} {
		has(t, row, rowFault(x, row), flaw{api.ErrRow, -1})
	}
	for i := range 5 {
		for n, v := range append(wrongValues(), right...) {
			if n-len(wrongValues()) == i {
				continue
			}
			row := slices.Clone(right)
			row[i] = v
			has(t, row, rowFault(x, row), flaw{api.ErrType, i})
			row[(i+1)%5] = null
			has(t, row, rowFault(x, row), flaw{api.ErrType, i})
			for m := i; m < 5; m++ {
				row[m] = api.Value{Kind: 6}
				has(t, row, rowFault(x, row), flaw{api.ErrType, i})
			}
		}
		row := slices.Clone(right)
		row[i] = null
		if i == 3 {
			has(t, row, rowFault(x, row))
			continue
		}
		has(t, row, rowFault(x, row), flaw{api.ErrNull, i})
		for m := i; m < 5; m++ {
			row[m] = null
			has(t, row, rowFault(x, row), flaw{api.ErrNull, i})
		}
	}
}

// P18.1 (A2): an Int is no Dec, and a Text no Bytes.
func TestRowKinds(t *testing.T) {
	kinds := list(null, no, whole(1), decimal(1), text("a"), bytes("a"))
	for k := api.Bool; k <= api.Bytes; k++ {
		x := bounded(k)
		for _, v := range kinds {
			want := flaw{}
			switch {
			case v.Kind == api.Null:
				want = flaw{api.ErrNull, 0}
			case v.Kind != k:
				want = flaw{api.ErrType, 0}
			}
			has(t, v, rowFault(x, list(v, null)), want)
		}
	}
}

// P18.1 (A2): any valid tables and rows, and those about them; the key of a row is one
// that lies in a part.
func TestRowAny(t *testing.T) {
	r := rand.New(rand.NewPCG(7, 8))
	counts := map[flaw]int{}
	for range 100000 {
		x := anyTable(r)
		var row []api.Value
		odd := r.IntN(3) > 0
		for _, c := range x.Columns {
			v := anyValue(r, c.Kind)
			if odd {
				v = oddValue(r, c.Kind)
			}
			if !odd && !c.Must && r.IntN(3) == 0 {
				v = null
			}
			row = append(row, v)
		}
		if r.IntN(20) == 0 {
			row = pick(r, row[1:], nil, append(row, null), append(row, row...))
		}
		f := checkRow(t, x, row)
		counts[f]++
		if f.code == api.OK {
			k, _ := catalog.Row(x, row)
			checkUnique(t, x, [][]api.Value{k})
			has(t, k, checked(x, k))
		}
	}
	for _, f := range []flaw{{}, {api.ErrRow, -1}, {api.ErrType, 0}, {api.ErrNull, 0}, {api.ErrType, 1}, {api.ErrNull, 1}, {api.ErrType, 12}, {api.ErrNull, 12}} {
		if counts[f] < 20 {
			t.Errorf("%v came %d times", f, counts[f])
		}
	}
}

// P1, P2, rule 2: calls on tables that are not valid answer all the same, the same
// again, and nothing beside a fault.
func TestInvalidTables(t *testing.T) {
	r := rand.New(rand.NewPCG(9, 10))
	tables := append(bad(), good()...)
	for range 20000 {
		tables = append(tables, spoil(r, spoil(r, anyTable(r))))
	}
	for _, big := range []int{1 << 32, 1 << 33, 1<<32 + 1, math.MaxInt} {
		x := plain("t")
		x.Parts = big
		tables = append(tables, x)
	}
	for _, x := range tables {
		catalog.Parts(x)
		var most []api.Value
		for _, c := range x.Columns {
			most = append(most, anyValue(r, c.Kind))
		}
		lists := [][]api.Value{nil, list(null), most, append(slices.Clone(most), null), most[:min(len(most), max(0, x.Key))]}
		for _, l := range lists {
			p, e := catalog.Part(x, l)
			q, f := catalog.Part(x, l)
			if p != q || (e == nil) != (f == nil) || p < 0 || e != nil && p != 0 {
				t.Fatalf("Part(%v, %v) = %d, %v and %d, %v", x, l, p, e, q, f)
			}
			k, e := catalog.Row(x, l)
			m, f := catalog.Row(x, l)
			if !slices.Equal(k, m) || (e == nil) != (f == nil) || e != nil && len(k) != 0 {
				t.Fatalf("Row(%v, %v) = %v, %v and %v, %v", x, l, k, e, m, f)
			}
		}
	}
}

// P1: long names, keys and rows are done in time.
func TestLong(t *testing.T) {
	long := strings.Repeat("a", 1<<24)
	has(t, "a name", catalog.Right(plain(long)), flaw{api.ErrTable, -1})
	x := plain("t")
	x.Columns[1].Name = long
	has(t, "a column's name", catalog.Right(x), flaw{api.ErrTable, 1})
	many := make([]api.Column, 1<<20)
	for i := range many {
		many[i] = must("a", api.Int)
	}
	has(t, "columns", catalog.Right(api.Table{Name: "t", Columns: many, Key: 1}), flaw{api.ErrTable, -1})
	has(t, "bounds", catalog.Right(bounded(api.Int, make([]api.Value, 1<<20)...)), flaw{api.ErrTable, -1})
	has(t, "a key", checked(plain("t"), make([]api.Value, 1<<20)), flaw{api.ErrKey, -1})
	has(t, "a row", rowFault(plain("t"), make([]api.Value, 1<<20)), flaw{api.ErrRow, -1})
}
