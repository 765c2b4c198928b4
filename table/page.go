package table

import (
	"bytes"
	"slices"
)

const (
	full = 128 // entries that a page has at the most
	half = full / 2
)

// page has entries that lie side by side, by increasing keys.
type page []Entry

// order tells whether an entry stands ahead of a key (-1), at it or behind it.
func (e Entry) order(key []byte) int { return bytes.Compare(e.Key, key) }

// order tells whether a page ends ahead of a key (-1), at it or behind it: the
// first page that doesn't end ahead is the one that has the key, if any has.
func (p page) order(key []byte) int { return p[len(p)-1].order(key) }

// find is where the entry with a key stands, or would stand.
func (p page) find(key []byte) (int, bool) {
	return slices.BinarySearchFunc(p, key, Entry.order)
}

// cut are the entries of a page in a range. The limit keeps those behind them
// from being reached, or overwritten by an append.
func (p page) cut(from, to []byte) page {
	first, _ := p.find(from)
	end := len(p)
	if len(to) > 0 {
		end, _ = p.find(to)
	}
	end = max(first, end)
	return p[first:end:end]
}

// copied is an entry with bytes of its own.
func (e Entry) copied() Entry {
	return Entry{bytes.Clone(e.Key), bytes.Clone(e.Row)}
}

// copied is a page with entries of its own.
func (p page) copied() page {
	c := make(page, 0, len(p))
	for _, e := range p {
		c = append(c, e.copied())
	}
	return c
}
