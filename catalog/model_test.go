package catalog_test

import (
	"encoding/binary"
	"hash/fnv"
	"math"
	"math/rand/v2"
	"regexp"
	"slices"
	"strings"
	"testing"

	"frankpledge/api"
	"frankpledge/catalog"
	"frankpledge/fault"
)

// These are told apart from the program, from the document's words.

var (
	null = api.Value{}
	no   = api.Value{Kind: api.Bool}
	yes  = api.Value{Kind: api.Bool, N: 1}
)

func whole(n int64) api.Value   { return api.Value{Kind: api.Int, N: n} }
func decimal(n int64) api.Value { return api.Value{Kind: api.Dec, N: n} }
func text(s string) api.Value   { return api.Value{Kind: api.Text, S: s} }
func bytes(s string) api.Value  { return api.Value{Kind: api.Bytes, S: s} }

// list is the values, one behind the other.
func list(l ...api.Value) []api.Value { return l }

// valid is what the document says of valid values (2).
func valid(v api.Value) bool {
	switch v.Kind {
	case api.Null:
		return v == null
	case api.Bool:
		return v == no || v == yes
	case api.Int, api.Dec:
		return v.S == ""
	case api.Text, api.Bytes:
		return v.N == 0 && len(v.S) <= 200
	}
	return false
}

// ahead tells whether a value comes ahead of another one (2).
func ahead(a, b api.Value) bool {
	if a.Kind != b.Kind {
		return a.Kind < b.Kind
	}
	if a.N != b.N {
		return a.N < b.N
	}
	return a.S < b.S
}

// encoding is that of a key (4).
func encoding(l []api.Value) []byte {
	var b []byte
	for _, v := range l {
		b = append(b, byte(v.Kind))
		switch v.Kind {
		case api.Bool:
			b = append(b, byte(v.N))
		case api.Int, api.Dec:
			b = binary.BigEndian.AppendUint64(b, uint64(v.N)^1<<63)
		case api.Text, api.Bytes:
			b = append(b, strings.ReplaceAll(v.S, "\x00", "\x00\xff")+"\x00\x01"...)
		}
	}
	return b
}

// names are those that tables and columns may have.
var names = regexp.MustCompile(`^[a-z][0-9_a-z]{0,19}$`)

// wrongTable is what the document says of a table that is not valid: the place of its
// fault, and whether there is one.
func wrongTable(t api.Table) (int, bool) {
	n := len(t.Columns)
	if !names.MatchString(t.Name) || n == 0 || n > 16 || t.Key < 1 || t.Key > n || t.Parts < 0 || t.Parts > 64 || len(t.Bounds) > 63 {
		return -1, true
	}
	if t.Parts > 0 && len(t.Bounds) > 0 {
		return -1, true
	}
	for i, b := range t.Bounds {
		if !valid(b) || b.Kind != t.Columns[0].Kind {
			return -1, true
		}
		if i > 0 && !ahead(t.Bounds[i-1], b) {
			return -1, true
		}
	}
	seen := map[string]bool{}
	for i, c := range t.Columns {
		if !names.MatchString(c.Name) || seen[c.Name] {
			return i, true
		}
		if c.Kind == api.Null || c.Kind < 0 || c.Kind > 5 {
			return i, true
		}
		if !c.Must && i <= t.Key-1 {
			return i, true
		}
		seen[c.Name] = true
	}
	return 0, false
}

// flaw is a fault by its code and place; OK for none.
type flaw struct {
	code api.Errno
	at   int
}

// partOf is what the document says of Part of a valid table.
func partOf(t api.Table, key []api.Value) (int, flaw) {
	if len(key) != t.Key {
		return 0, flaw{api.ErrKey, -1}
	}
	for _, v := range key {
		if !valid(v) {
			return 0, flaw{api.ErrKey, -1}
		}
	}
	for i, v := range key {
		if v.Kind != t.Columns[i].Kind {
			return 0, flaw{api.ErrKey, i}
		}
	}
	if t.Parts > 0 {
		h := fnv.New32a()
		h.Write(encoding(key))
		return int(h.Sum32() % uint32(t.Parts)), flaw{}
	}
	part := 0
	for _, b := range t.Bounds {
		if !ahead(key[0], b) {
			part++
		}
	}
	return part, flaw{}
}

// keyOf is what the document says of Row of a valid table.
func keyOf(t api.Table, row []api.Value) ([]api.Value, flaw) {
	if len(row) != len(t.Columns) {
		return nil, flaw{api.ErrRow, -1}
	}
	for i, v := range row {
		if !valid(v) || v != null && v.Kind != t.Columns[i].Kind {
			return nil, flaw{api.ErrType, i}
		}
	}
	for i, v := range row {
		if v == null && t.Columns[i].Must {
			return nil, flaw{api.ErrNull, i}
		}
	}
	return row[:t.Key], flaw{}
}

// has fails unless an error has just these codes and places; none for no error.
func has(t *testing.T, what any, e error, flaws ...flaw) {
	t.Helper()
	var codes []api.Errno
	var places []int
	for _, f := range flaws {
		if f.code != api.OK {
			codes, places = append(codes, f.code), append(places, f.at)
		}
	}
	if (e != nil) != (len(codes) > 0) || !slices.Equal(fault.Codes(e), codes) || !slices.Equal(fault.Places(e), places) {
		t.Fatalf("%v: %v, not %v", what, e, flaws)
	}
}

// same compares tables field by field.
func same(a, b api.Table) bool {
	return a.Name == b.Name && slices.Equal(a.Columns, b.Columns) && a.Key == b.Key && a.Parts == b.Parts && slices.Equal(a.Bounds, b.Bounds)
}

// checkRight fails unless Right says of a table what the document does, and answers
// whether that is valid.
func checkRight(t *testing.T, x api.Table) bool {
	t.Helper()
	at, wrong := wrongTable(x)
	if wrong {
		has(t, x, catalog.Right(x), flaw{api.ErrTable, at})
	} else {
		has(t, x, catalog.Right(x))
	}
	return !wrong
}

// checkPart fails unless Part says of a key what the document does.
func checkPart(t *testing.T, x api.Table, key []api.Value) flaw {
	t.Helper()
	want, f := partOf(x, key)
	got, e := catalog.Part(x, key)
	has(t, []any{x, key}, e, f)
	if got != want {
		t.Fatalf("Part(%v, %v) = %d, not %d", x, key, got, want)
	}
	return f
}

// checkRow fails unless Row says of a row what the document does.
func checkRow(t *testing.T, x api.Table, row []api.Value) flaw {
	t.Helper()
	want, f := keyOf(x, row)
	got, e := catalog.Row(x, row)
	has(t, []any{x, row}, e, f)
	if !slices.Equal(got, want) {
		t.Fatalf("Row(%v, %v) = %v, not %v", x, row, got, want)
	}
	return f
}

// pick is any one of the items.
func pick[T any](r *rand.Rand, l ...T) T { return l[r.IntN(len(l))] }

// anyValue is a valid value of a kind.
func anyValue(r *rand.Rand, k api.Kind) api.Value {
	n := pick(r, 0, 1, -1, r.Int64N(20), r.Int64(), -r.Int64(), math.MaxInt64, math.MinInt64)
	s := pick(r, "", "a", "\x00", "\x00\xff", "a\x00b", strings.Repeat("z", 200), string([]byte{byte(r.IntN(256))}))
	switch k {
	case api.Bool:
		return pick(r, no, yes)
	case api.Int, api.Dec:
		return api.Value{Kind: k, N: n}
	case api.Text, api.Bytes:
		return api.Value{Kind: k, S: s}
	}
	return null
}

// wrongValues are values that are not valid.
func wrongValues() []api.Value {
	long := strings.Repeat("a", 201)
	return []api.Value{
		{N: 1}, {S: "a"}, {Kind: api.Bool, N: 2}, {Kind: api.Bool, N: -1}, {Kind: api.Bool, S: "a"}, {Kind: api.Int, S: "a"}, {Kind: api.Dec, N: 1, S: "a"},
		{Kind: api.Text, N: 1}, {Kind: api.Bytes, N: -1}, text(long), bytes(long), {Kind: 6}, {Kind: -1}, {Kind: math.MaxInt}, {Kind: math.MinInt},
	}
}

// oddValue is mostly a valid value of a kind.
func oddValue(r *rand.Rand, k api.Kind) api.Value {
	switch r.IntN(20) {
	case 0:
		return null
	case 1:
		return pick(r, wrongValues()...)
	case 2:
		return anyValue(r, api.Kind(r.IntN(6)))
	}
	return anyValue(r, k)
}

// bounds are as many valid ones of a kind, or fewer, strictly increasing.
func bounds(r *rand.Rand, k api.Kind, count int) []api.Value {
	var l []api.Value
	for range count {
		l = append(l, anyValue(r, k))
	}
	slices.SortFunc(l, func(a, b api.Value) int {
		if ahead(a, b) {
			return -1
		}
		return 1
	})
	return slices.Compact(l)
}

// anyTable is a valid one.
func anyTable(r *rand.Rand) api.Table {
	t := api.Table{Name: pick(r, "t", "u1", strings.Repeat("t_", 10))}
	n := pick(r, 1, 2, 3, 16, 1+r.IntN(16))
	t.Key = pick(r, 1, n, 1+r.IntN(n))
	for i := range n {
		name := "c" + strings.Repeat("_", i)
		t.Columns = append(t.Columns, api.Column{Name: name, Kind: api.Kind(1 + r.IntN(5)), Must: i < t.Key || r.IntN(2) == 0})
	}
	if r.IntN(2) == 0 {
		t.Parts = pick(r, 1, 2, 3, 63, 64, 1+r.IntN(64))
	} else {
		t.Bounds = bounds(r, t.Columns[0].Kind, pick(r, 0, 1, 2, 63, r.IntN(64)))
	}
	return t
}

// spoil changes a part of a table, mostly so that it isn't valid.
func spoil(r *rand.Rand, t api.Table) api.Table {
	name := pick(r, "", "A", "1", "_", "é", "a b", strings.Repeat("a", 20), strings.Repeat("a", 21), "c", "c_")
	number := pick(r, 0, -1, 1, 2, 16, 17, 63, 64, 65, 256, 1<<32, 1<<32+1, math.MaxInt, math.MinInt)
	t.Columns, t.Bounds = slices.Clone(t.Columns), slices.Clone(t.Bounds)
	i, k := r.IntN(max(1, len(t.Columns))), r.IntN(max(1, len(t.Bounds)))
	switch {
	case r.IntN(9) == 0:
		t.Name = name
	case r.IntN(6) == 0:
		t.Key = number
	case r.IntN(6) == 0:
		t.Parts = number
	case r.IntN(8) == 0:
		t.Columns = pick(r, nil, append(t.Columns, t.Columns...), t.Columns[:min(len(t.Columns), 1)])
	case r.IntN(8) == 0:
		t.Bounds = append(t.Bounds, pick(r, append(wrongValues(), null, no, whole(5), text("a"))...))
	case r.IntN(2) == 0 && k < len(t.Bounds):
		t.Bounds[k] = oddValue(r, t.Bounds[k].Kind)
	case r.IntN(4) == 0 && i < len(t.Columns):
		t.Columns[i].Name = name
	case r.IntN(2) == 0 && i < len(t.Columns):
		t.Columns[i].Kind = api.Kind(pick(r, 0, 6, -1, 1, 5, number))
	case i < len(t.Columns):
		t.Columns[i].Must = !t.Columns[i].Must
	}
	return t
}
