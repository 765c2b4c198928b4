package table

import (
	"math/rand/v2"
	"testing"
)

// checkPages tells whether the pages are as find and join leave them: none is
// empty or too long, no two side by side are nearly empty, and all keys increase.
func checkPages(t *testing.T, x *Table) {
	t.Helper()
	count, last := 0, ""
	for i, p := range x.pages {
		if len(p) == 0 || len(p) > full {
			t.Fatalf("page %d has %d entries", i, len(p))
		}
		if i > 0 && len(p)+len(x.pages[i-1]) <= half {
			t.Fatalf("pages %d and %d have %d entries together", i-1, i, len(p)+len(x.pages[i-1]))
		}
		for _, e := range p {
			if count > 0 && string(e.Key) <= last {
				t.Fatalf("%q stands behind %q", e.Key, last)
			}
			count, last = count+1, string(e.Key)
		}
		for _, e := range p[len(p):cap(p)] {
			if e.Key != nil || e.Row != nil {
				t.Fatalf("page %d keeps %q behind its end", i, e.Key)
			}
		}
	}
	if count != x.Len() {
		t.Fatalf("Len = %d, not %d", x.Len(), count)
	}
}

// P8.2: the pages of tables that grow and shrink again and again.
func TestPages(t *testing.T) {
	r := rand.New(rand.NewPCG(1, 2))
	for _, n := range []int{1, 64, 129, 300, 3000} {
		x := New()
		for i := range 20000 {
			k := r.IntN(n)
			if r.IntN(100) < 20+i/4000%2*60 {
				x.Drop([]byte{byte(k >> 8), byte(k)})
			} else {
				x.Put([]byte{byte(k >> 8), byte(k)}, []byte("row"))
			}
			if i%50 == 0 || len(x.pages) < 8 {
				checkPages(t, x)
			}
		}
		checkPages(t, x.Copy())
	}
}

// P8.2: pages stay as full when entries come and go at one place, or at both ends.
func TestPagesAtEnds(t *testing.T) {
	x := New()
	for i := range 4000 {
		x.Put([]byte{byte(i >> 8), byte(i)}, nil)
		if i%2 == 0 {
			x.Drop([]byte{byte(i >> 9), byte(i >> 1)})
		}
		checkPages(t, x)
	}
	for i := 3999; x.Len() > 0; i-- {
		x.Drop([]byte{byte(i >> 8), byte(i)})
		checkPages(t, x)
	}
	if len(x.pages) != 0 {
		t.Errorf("an empty table has %d pages", len(x.pages))
	}
}

// A page of a range can't be lengthened over the entries behind it.
func TestCutLimit(t *testing.T) {
	p := page{{Key: []byte("a")}, {Key: []byte("b")}, {Key: []byte("c")}}
	for _, c := range []struct {
		from, to string
		want     int
	}{{"", "", 3}, {"a", "b", 1}, {"b", "", 2}, {"b", "c", 1}, {"c", "a", 0}, {"d", "", 0}, {"", "a", 0}} {
		inside := p.cut([]byte(c.from), []byte(c.to))
		if len(inside) != c.want || cap(inside) != c.want {
			t.Errorf("from %q to %q: %d entries, with room for %d", c.from, c.to, len(inside), cap(inside))
		}
	}
}
