package table_test

import (
	"bytes"
	"fmt"
	"math"
	"math/rand/v2"
	"slices"
	"strconv"
	"strings"
	"sync"
	"testing"

	"frankpledge/table"
)

// P8.1 (T1): a new table is empty, and each one is another one.
func TestNew(t *testing.T) {
	x := table.New()
	model{}.check(t, x, few())
	x.Put([]byte("a"), []byte("b"))
	model{}.check(t, table.New(), few())
}

// A table that no call made is one without entries.
func TestZero(t *testing.T) {
	var x table.Table
	model{}.check(t, &x, few())
	model{}.check(t, x.Copy(), few())
	m := model{}
	m.follow(t, &x, step{"Drop", "a", ""})
	m.follow(t, &x, step{"Put", "a", "b"})
	m.check(t, &x, few())
}

// P8.1 (T1): Put and Drop tell the former row, and whether there was one.
func TestPutDrop(t *testing.T) {
	x := table.New()
	for i, s := range []struct {
		step
		row string
		is  bool
		len int
	}{
		{step{"Drop", "a", ""}, "", false, 0},
		{step{"Put", "a", "one"}, "", false, 1},
		{step{"Put", "a", "two"}, "one", true, 1},
		{step{"Put", "a", ""}, "two", true, 1},
		{step{"Put", "a", "three"}, "", true, 1},
		{step{"Put", "", "none"}, "", false, 2},
		{step{"Put", "", "no"}, "none", true, 2},
		{step{"Drop", "b", ""}, "", false, 2},
		{step{"Drop", "a", ""}, "three", true, 1},
		{step{"Drop", "a", ""}, "", false, 1},
		{step{"Drop", "", ""}, "no", true, 0},
		{step{"Drop", "", ""}, "", false, 0},
		{step{"Put", "a", "four"}, "", false, 1},
	} {
		if got := do(x, s.step); got != (outcome{s.row, s.is}) || x.Len() != s.len {
			t.Errorf("step %d: %q: %v, with %d entries", i, s.step, got, x.Len())
		}
	}
}

// P8.1 (T1): no bytes are a key and a row as any others, nil or not.
func TestEmpty(t *testing.T) {
	x := table.New()
	if row, is := x.Put(nil, nil); len(row) != 0 || is {
		t.Errorf("Put = %q, %v", row, is)
	}
	if row, is := x.Get([]byte{}); len(row) != 0 || !is {
		t.Errorf("Get = %q, %v", row, is)
	}
	if row, is := x.Put([]byte{}, []byte("a")); len(row) != 0 || !is || x.Len() != 1 {
		t.Errorf("Put = %q, %v", row, is)
	}
	for _, none := range [][]byte{nil, {}} {
		if l := texts(x.Range(none, none, 9)); !slices.Equal(l, []entry{{"", "a"}}) {
			t.Errorf("Range = %q", l)
		}
		if e, is := x.Last(none); len(e.Key) != 0 || string(e.Row) != "a" || !is {
			t.Errorf("Last = %q, %v", e, is)
		}
		if row, is := x.Get(none); string(row) != "a" || !is {
			t.Errorf("Get = %q, %v", row, is)
		}
	}
	if l := x.Range(nil, []byte{0}, 9); len(l) != 1 {
		t.Errorf("Range = %q", l)
	}
	if _, is := x.Last([]byte{0}); !is {
		t.Error("Last has nothing")
	}
}

// P8.1 (T1): ranges by the words of the document: not less than the first key, and
// less than the second one.
func TestRange(t *testing.T) {
	x := table.New()
	for _, k := range []string{"b", "a", "ab", "a\x00", "\xff", "B", "ba"} {
		x.Put([]byte(k), []byte("row of "+k))
	}
	for _, c := range []struct {
		from, to string
		most     int
		want     string
	}{
		{"", "", 99, "B a a\x00 ab b ba \xff"},
		{"", "", 7, "B a a\x00 ab b ba \xff"},
		{"", "", 6, "B a a\x00 ab b ba"},
		{"", "", 1, "B"},
		{"", "", 0, ""},
		{"", "", -1, ""},
		{"a", "b", 99, "a a\x00 ab"},
		{"a", "b\x00", 99, "a a\x00 ab b"},
		{"a\x00", "b", 99, "a\x00 ab"},
		{"a", "a\x00", 99, "a"},
		{"a\x00\x00", "ab", 99, ""},
		{"a", "b", 2, "a a\x00"},
		{"aa", "", 99, "ab b ba \xff"},
		{"", "aa", 99, "B a a\x00"},
		{"\xff", "", 99, "\xff"},
		{"\xff\x00", "", 99, ""},
		{"", "\xff", 99, "B a a\x00 ab b ba"},
		{"", "B", 99, ""},
		{"", "A", 99, ""},
		{"a", "a", 99, ""},
		{"b", "a", 99, ""},
		{"\xff", "\x00", 99, ""},
	} {
		var keys []string
		for _, e := range x.Range([]byte(c.from), []byte(c.to), c.most) {
			keys = append(keys, string(e.Key))
			if string(e.Row) != "row of "+string(e.Key) {
				t.Errorf("%q has the row %q", e.Key, e.Row)
			}
		}
		if got := strings.Join(keys, " "); got != c.want {
			t.Errorf("Range(%q, %q, %d) = %q, not %q", c.from, c.to, c.most, got, c.want)
		}
	}
}

// P8.1 (T1): the last entry ahead of a key.
func TestLast(t *testing.T) {
	x := table.New()
	for _, k := range []string{"b", "a", "ab"} {
		x.Put([]byte(k), []byte("row of "+k))
	}
	for to, want := range map[string]string{"": "b", "c": "b", "b\x00": "b", "b": "ab", "ab": "a", "aa": "a", "a\x00": "a", "a": "", "A": "", "\x00": ""} {
		e, is := x.Last([]byte(to))
		row := ""
		if want != "" {
			row = "row of " + want
		}
		if string(e.Key) != want || string(e.Row) != row || is != (want != "") {
			t.Errorf("Last(%q) = %q, %v, not %q", to, e, is, want)
		}
	}
}

// P8.1: all short lists of steps, with all that may be told of the table.
func TestAllShortHistories(t *testing.T) {
	count := 0
	histories(4, func(l []step) {
		m, x := model{}, table.New()
		for _, s := range l {
			m.follow(t, x, s)
		}
		m.check(t, x, few())
		count++
	})
	if count < 10000 {
		t.Errorf("only %d histories", count)
	}
}

// P8.1, P8.2: tables of many sizes, which grow and shrink in several orders.
func TestGrowAndShrink(t *testing.T) {
	for _, n := range sizes() {
		for name, grow := range orders(n) {
			for other, shrink := range orders(n) {
				m, x := made(t, grow)
				m.checkAll(t, x)
				for i, k := range shrink {
					m.follow(t, x, step{"Drop", numbered(k), ""})
					m.checkLast(t, x, numbered(k))
					if i%(n/8+1) == 0 {
						m.checkAll(t, x)
					}
				}
				if x.Len() != 0 || len(x.Range(nil, nil, 9)) != 0 {
					t.Fatalf("%d, %s, %s: %d entries are left", n, name, other, x.Len())
				}
				m.follow(t, x, step{"Put", "a", "b"})
				m.checkAll(t, x)
			}
		}
	}
}

// P8.1, P8.2: ranges that begin and end at each entry of a table of several pages,
// and the last entries ahead of each.
func TestAllRanges(t *testing.T) {
	for _, n := range []int{64, 128, 129, 193, 300} {
		m, x := made(t, orders(n)["any"])
		for i := 0; i <= n; i++ {
			m.checkGet(t, x, numbered(i))
			m.checkLast(t, x, numbered(i))
			m.checkLast(t, x, numbered(i)+"\x00\x00")
			for _, most := range []int{1, 63, 64, 65, 128, 129, 500} {
				m.checkRange(t, x, numbered(i), "", most)
			}
			for j := i % 7; j <= n; j += 7 {
				m.checkRange(t, x, numbered(i), numbered(j), math.MaxInt)
			}
			for _, j := range []int{i - 1, i, i + 1, i + 63, i + 64, i + 65} {
				m.checkRange(t, x, numbered(i), numbered(max(0, j)), math.MaxInt)
			}
		}
	}
}

// P8.1: how many are asked for, far from how many there are.
func TestMost(t *testing.T) {
	for _, n := range sizes() {
		m, x := made(t, orders(n)["any"])
		for _, most := range append(extremes(), 0, 1, 2, n-1, n, n+1) {
			m.checkRange(t, x, "", "", most)
			m.checkRange(t, x, numbered(1), numbered(n-1), most)
			m.checkRange(t, x, numbered(1), "", most)
			m.checkRange(t, x, numbered(n), numbered(1), most)
		}
	}
}

// P8.1: long lists of steps, on tables of several sizes.
func TestLongHistories(t *testing.T) {
	r := rand.New(rand.NewPCG(1, 2))
	for _, n := range []int{3, 40, 130, 300, 2000} {
		m, x := model{}, table.New()
		for i := range 20000 {
			name := "Put"
			if r.IntN(100) < 30+i/1000%2*40 {
				name = "Drop"
			}
			m.follow(t, x, step{name, numbered(r.IntN(n)), strconv.Itoa(i)})
			m.checkGet(t, x, numbered(r.IntN(n)))
			if i%97 == 0 {
				m.checkAll(t, x)
				m.checkLast(t, x, numbered(r.IntN(n)))
				m.checkRange(t, x, numbered(r.IntN(n)), numbered(r.IntN(n)), r.IntN(n))
			}
		}
	}
}

// P8.1: keys of any bytes and lengths, many of which begin with others.
func TestAnyKeys(t *testing.T) {
	r := rand.New(rand.NewPCG(3, 4))
	key := func() string {
		b := make([]byte, r.IntN(7))
		for i := range b {
			b[i] = []byte{0, 1, 'a', 127, 128, 255}[r.IntN(6)]
		}
		return string(b)
	}
	m, x := model{}, table.New()
	for i := range 20000 {
		name := "Put"
		if r.IntN(3) == 0 {
			name = "Drop"
		}
		m.follow(t, x, step{name, key(), key()})
		if i%200 == 0 {
			m.checkAll(t, x)
			m.checkLast(t, x, key())
			m.checkRange(t, x, key(), key(), math.MaxInt)
		}
	}
}

// P8.1: long keys and rows: the table has no limits of its own.
func TestLongEntries(t *testing.T) {
	m, x := model{}, table.New()
	long := strings.Repeat("ab", 1<<20)
	for _, k := range []string{long, long[:len(long)-1], long + "\x00", "a", ""} {
		m.follow(t, x, step{"Put", k, long + k})
		m.checkGet(t, x, k)
		m.checkLast(t, x, long)
	}
	m.checkAll(t, x)
	m.follow(t, x, step{"Drop", long, ""})
	m.checkAll(t, x)
}

// P8.2: a range's entries increase, and are just those of the table that are in it.
func TestOrder(t *testing.T) {
	r := rand.New(rand.NewPCG(5, 6))
	for _, n := range sizes() {
		_, x := made(t, orders(n)["any"])
		for i := range n {
			if i%3 == 0 {
				x.Drop([]byte(numbered(i)))
			}
		}
		for range 30 {
			from, to := numbered(r.IntN(n+1)), numbered(r.IntN(n+1))
			l := x.Range([]byte(from), []byte(to), n)
			for i := 1; i < len(l); i++ {
				if bytes.Compare(l[i-1].Key, l[i].Key) >= 0 {
					t.Fatalf("%q stands ahead of %q", l[i-1].Key, l[i].Key)
				}
			}
			for i := range n {
				k := numbered(i)
				at := slices.IndexFunc(l, func(e table.Entry) bool { return string(e.Key) == k })
				if (at >= 0) != (i%3 != 0 && inside(k, from, to)) {
					t.Fatalf("of %d entries, %q is at %d in the range from %q to %q", n, k, at, from, to)
				}
			}
		}
	}
}

// P8.1 (T1): a copy has the same entries, and what changes one of both doesn't
// change the other one.
func TestCopy(t *testing.T) {
	for _, n := range sizes() {
		m, x := made(t, orders(n)["any"])
		c := x.Copy()
		m.checkAll(t, c)
		own := model{}
		for k, row := range m {
			own[k] = row
		}
		for i := range n {
			switch i % 3 {
			case 0:
				own.follow(t, c, step{"Drop", numbered(i), ""})
			case 1:
				own.follow(t, c, step{"Put", numbered(i), "of the copy"})
			}
			own.follow(t, c, step{"Put", numbered(i) + "\x00\x00", "new"})
		}
		own.checkAll(t, c)
		m.checkAll(t, x)
		for i := range n {
			if i%2 == 0 {
				m.follow(t, x, step{"Drop", numbered(i), ""})
			} else {
				m.follow(t, x, step{"Put", numbered(i), "of the first one"})
			}
			m.follow(t, x, step{"Put", numbered(i) + "\x00\x00\x00", "new"})
		}
		own.checkAll(t, c)
		m.checkAll(t, x)
		m.checkAll(t, x.Copy().Copy())
	}
}

// P8.1: all short lists of steps, on a table and, in between, on its copy.
func TestCopyHistories(t *testing.T) {
	histories(3, func(l []step) {
		for at := range l {
			m, x := model{}, table.New()
			for _, s := range l[:at] {
				m.follow(t, x, s)
			}
			c := x.Copy()
			for _, s := range l[at:] {
				do(c, s)
			}
			m.checkAll(t, x)
			for _, s := range l[at:] {
				m.follow(t, x, s)
			}
			m.checkAll(t, c)
		}
	})
}

// P8.1, P1: no table.
func TestNil(t *testing.T) {
	var x *table.Table
	for _, k := range [][]byte{nil, {}, {0}, []byte("abc")} {
		if row, is := x.Put(k, k); row != nil || is {
			t.Errorf("Put = %q, %v", row, is)
		}
		if row, is := x.Drop(k); row != nil || is {
			t.Errorf("Drop = %q, %v", row, is)
		}
		if row, is := x.Get(k); row != nil || is {
			t.Errorf("Get = %q, %v", row, is)
		}
		if e, is := x.Last(k); e.Key != nil || e.Row != nil || is {
			t.Errorf("Last = %q, %v", e, is)
		}
		for _, most := range append(extremes(), 0, 1, 2) {
			if l := x.Range(k, nil, most); len(l) != 0 {
				t.Errorf("Range = %q", l)
			}
		}
	}
	if x.Len() != 0 || x.Copy() != nil {
		t.Errorf("Len, Copy = %d, %v", x.Len(), x.Copy())
	}
}

// Rule 2: where nothing is told of, nothing is answered.
func TestNothing(t *testing.T) {
	_, x := made(t, orders(200)["up"])
	none := []byte("none")
	if row, is := x.Get(none); row != nil || is {
		t.Errorf("Get = %q, %v", row, is)
	}
	if row, is := x.Drop(none); row != nil || is {
		t.Errorf("Drop = %q, %v", row, is)
	}
	if e, is := x.Last([]byte(numbered(0))); e.Key != nil || e.Row != nil || is {
		t.Errorf("Last = %q, %v", e, is)
	}
	if row, is := x.Put(none, none); row != nil || is {
		t.Errorf("Put = %q, %v", row, is)
	}
}

// Rule 4: arguments are neither changed nor kept, nor reached behind their end.
func TestArguments(t *testing.T) {
	m, x := model{}, table.New()
	for i := range 300 {
		key, row := []byte(numbered(i*37%300)+"behind"), []byte(strconv.Itoa(i)+"behind")
		k, r := key[:len(key)-6], row[:len(row)-6]
		m.do(step{"Put", string(k), string(r)})
		x.Put(k, r)
		x.Get(k)
		x.Last(k)
		x.Range(k, k, 9)
		x.Range(k, nil, 9)
		if !strings.HasSuffix(string(key), "behind") || string(row) != strconv.Itoa(i)+"behind" {
			t.Fatalf("arguments are %q, %q", key, row)
		}
		if string(k) != numbered(i*37%300) {
			t.Fatalf("a key is %q", k)
		}
		clear(key)
		clear(row)
	}
	m.checkAll(t, x)
	same := []byte("same")
	m.do(step{"Put", "same", "same"})
	x.Put(same, same)
	again := []byte("row")
	m.do(step{"Put", "same", "row"})
	x.Put(same, again)
	clear(again)
	clear(same)
	m.checkAll(t, x)
}

// spoil overwrites a slice, with all the room behind it.
func spoil(b []byte) {
	for i := range b[:cap(b)] {
		b[:cap(b)][i] = 'x'
	}
}

// Rule 4: answers are new memory, with all the room behind them.
func TestNewMemory(t *testing.T) {
	for _, n := range []int{1, 100, 300} {
		m, x := made(t, orders(n)["any"])
		c := x.Copy()
		for i := range n {
			k := []byte(numbered(i))
			row, _ := x.Get(k)
			spoil(row)
			e, _ := x.Last(k)
			spoil(e.Key)
			spoil(e.Row)
		}
		l := x.Range(nil, nil, n)
		_ = append(l[:n/2], table.Entry{Key: []byte("other")})
		clear(l[:cap(l)])
		l = x.Range(nil, nil, n)
		for i, e := range l {
			want := entry{numbered(i), strconv.Itoa(i)}
			if texts(l[i : i+1])[0] != want {
				t.Fatalf("another slice of the answer changes %q to %q", want, e)
			}
			spoil(e.Key)
			if string(e.Row) != want.row {
				t.Fatalf("the key of %q shares its memory", want)
			}
			spoil(e.Row)
		}
		m.checkAll(t, x)
		m.checkAll(t, c)
		row, _ := x.Put([]byte(numbered(0)), []byte("new"))
		spoil(row)
		row, _ = x.Drop([]byte(numbered(n / 2)))
		spoil(row)
		m.checkAll(t, c)
		m.do(step{"Put", numbered(0), "new"})
		m.do(step{"Drop", numbered(n / 2), ""})
		m.checkAll(t, x)
	}
}

// Rule 4: later calls leave earlier answers as they were.
func TestAnswersStay(t *testing.T) {
	_, x := made(t, orders(300)["any"])
	l := x.Range(nil, nil, 300)
	got, _ := x.Get([]byte(numbered(7)))
	last, _ := x.Last(nil)
	put, _ := x.Put([]byte(numbered(7)), []byte("new"))
	drop, _ := x.Drop([]byte(numbered(8)))
	for i := range 300 {
		x.Put([]byte(numbered(i)), []byte("later"))
		x.Put([]byte(numbered(i)+"\x00\x00"), []byte("more"))
	}
	for i := range 300 {
		x.Drop([]byte(numbered(i)))
		if texts(l[i : i+1])[0] != (entry{numbered(i), strconv.Itoa(i)}) {
			t.Fatalf("an answer is changed to %q", l[i])
		}
	}
	if string(got) != "7" || string(put) != "7" || string(drop) != "8" || string(last.Key) != numbered(299) || string(last.Row) != "299" {
		t.Errorf("answers are changed to %q, %q, %q, %q", got, put, drop, last)
	}
}

// Asking a table changes nothing, also if several ask at a time.
func TestAskingChangesNothing(t *testing.T) {
	m, x := made(t, orders(300)["any"])
	var wait sync.WaitGroup
	for range 4 {
		wait.Go(func() {
			for i := range 300 {
				k := []byte(numbered(i))
				x.Get(k)
				x.Last(k)
				x.Range(k, nil, i)
				x.Len()
				x.Copy()
			}
		})
	}
	wait.Wait()
	m.checkAll(t, x)
}

// P1: tables of many entries answer in time.
func TestManyEntries(t *testing.T) {
	for name, l := range orders(200000) {
		x := table.New()
		for _, i := range l {
			x.Put([]byte(numbered(i)), []byte("row"))
		}
		if x.Len() != len(l) {
			t.Fatalf("%s: Len = %d", name, x.Len())
		}
		for _, i := range l {
			k := []byte(numbered(i))
			if e := x.Range(k, nil, 1); len(e) != 1 || string(e[0].Key) != string(k) {
				t.Fatalf("%s: Range = %q", name, e)
			}
			if e, is := x.Last(k); is != (i > 0) || is && string(e.Key) != numbered(i-1) {
				t.Fatalf("%s: Last = %q, %v", name, e, is)
			}
			if len(x.Range(k, k, math.MaxInt)) != 0 || len(x.Range(nil, nil, 2)) != 2 {
				t.Fatalf("%s: another range at %d", name, i)
			}
		}
		for _, i := range l {
			if _, is := x.Drop([]byte(numbered(i))); !is {
				t.Fatalf("%s: Drop(%d)", name, i)
			}
			if _, is := x.Last(nil); is != (x.Len() > 0) {
				t.Fatalf("%s: Last at %d entries", name, x.Len())
			}
		}
	}
}

// answers are those of a history, as text.
func answers() []string {
	var l []string
	r := rand.New(rand.NewPCG(9, 10))
	x := table.New()
	for i := range 5000 {
		name := "Put"
		if r.IntN(3) == 0 {
			name = "Drop"
		}
		k := []byte(numbered(r.IntN(400)))
		y := do(x, step{name, string(k), strconv.Itoa(i)})
		e, is := x.Last(k)
		l = append(l, fmt.Sprint(y, x.Len(), e, is, x.Range(k, nil, 3)))
		if r.IntN(500) == 0 {
			x = x.Copy()
		}
	}
	return l
}

// P1, P2: no call panics, and calls on other tables that came before, or go on
// meanwhile, change no answer.
func TestSameAgain(t *testing.T) {
	first := answers()
	again := make([][]string, 4)
	var wait sync.WaitGroup
	for i := range again {
		wait.Go(func() { again[i] = answers() })
	}
	wait.Wait()
	for _, l := range again {
		if !slices.Equal(l, first) {
			t.Error("the same calls have other answers")
		}
	}
}

// The example of README.md.
func TestReadmeExample(t *testing.T) {
	x := table.New()
	x.Put([]byte("b"), []byte("one"))
	if row, is := x.Put([]byte("b"), []byte("two")); string(row) != "one" || !is {
		t.Errorf("%q, %v", row, is)
	}
	x.Put([]byte("a"), nil)
	if l := texts(x.Range([]byte("a"), []byte("b"), 9)); !slices.Equal(l, []entry{{"a", ""}}) {
		t.Errorf("%q", l)
	}
	if l := texts(x.Range([]byte("a"), nil, 9)); !slices.Equal(l, []entry{{"a", ""}, {"b", "two"}}) {
		t.Errorf("%q", l)
	}
	c := x.Copy()
	if row, is := x.Drop([]byte("a")); len(row) != 0 || !is {
		t.Errorf("%q, %v", row, is)
	}
	if e, is := x.Last([]byte("b")); e.Key != nil || is {
		t.Errorf("%q, %v", e, is)
	}
	if e, is := c.Last([]byte("b")); string(e.Key) != "a" || !is {
		t.Errorf("%q, %v", e, is)
	}
}
