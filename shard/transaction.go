package shard

import (
	"bytes"

	"frankpledge/api"
	"frankpledge/table"
)

const (
	maxSpace = 32
	maxKey   = 200
	maxRow   = 2000
)

// Change is a row that is put at a key of a space, or dropped there.
type Change struct {
	Space    string
	Key, Row []byte
	Drop     bool
}

// fits tells whether there may be such a change.
func (c Change) fits() bool {
	return len(c.Space) <= maxSpace && len(c.Key) <= maxKey && len(c.Row) <= maxRow
}

// copied is a change with bytes of its own.
func (c Change) copied() Change {
	c.Key, c.Row = bytes.Clone(c.Key), bytes.Clone(c.Row)
	return c
}

// apply changes the rows of the change's space.
func (c Change) apply(rows *table.Table) {
	if c.Drop {
		rows.Drop(c.Key)
		return
	}
	rows.Put(c.Key, c.Row)
}

// place is where a row may be.
type place struct {
	space, key string
}

func (c Change) place() place { return place{c.Space, string(c.Key)} }

// transaction has changes, in order. They can't be applied before it commits; so
// the last one of each place is kept at hand.
type transaction struct {
	changes  []Change
	last     map[place]int
	prepared bool
}

// begin is a transaction without changes.
func begin() *transaction { return &transaction{last: map[place]int{}} }

// valid tells whether a number is that of a transaction.
func valid(tx int) bool { return tx >= 0 && tx <= api.MaxNumber }

// add gives a transaction one more change.
func (t *transaction) add(c Change) {
	t.last[c.place()] = len(t.changes)
	t.changes = append(t.changes, c)
}

// back leaves a transaction its first few changes.
func (t *transaction) back(mark int) {
	first := t.changes[:mark]
	*t = *begin()
	for _, c := range first {
		t.add(c)
	}
}

// records are what the log tells of a transaction: its changes, and what becomes of
// them.
func (t *transaction) records(tx int, end kind) []record {
	l := []record{{kind: begun, tx: tx}}
	for _, c := range t.changes {
		k := put
		if c.Drop {
			k = dropped
		}
		l = append(l, record{k, tx, c})
	}
	return append(l, record{kind: end, tx: tx})
}
