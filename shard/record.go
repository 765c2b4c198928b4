package shard

import (
	"slices"

	"frankpledge/api"
	"frankpledge/row"
)

const (
	head  = 5           // bytes of a frame that stand ahead of its record
	piece = api.MaxText // bytes of a row that one value holds
)

// kind is a record's, by its number in the log.
type kind int

const (
	begun kind = iota // a transaction has no changes yet
	put
	dropped
	prepared
	committed
	aborted
	imageBegun
	imageRow
	imageEnded
)

// record is one of the log.
type record struct {
	kind   kind
	tx     int
	change Change // of put, dropped and imageRow
}

// values are those that a record consists of in the log.
func (r record) values() []api.Value {
	l := []api.Value{number(int(r.kind)), number(r.tx)}
	var pieces []api.Value
	switch r.kind {
	case imageRow:
		fallthrough
	case put:
		for p := range slices.Chunk(r.change.Row, piece) {
			pieces = append(pieces, blob(p))
		}
		fallthrough
	case dropped:
		l = append(l, api.Value{Kind: api.Text, S: r.change.Space}, blob(r.change.Key))
	}
	return append(l, pieces...)
}

func number(n int) api.Value  { return api.Value{Kind: api.Int, N: int64(n)} }
func blob(b []byte) api.Value { return api.Value{Kind: api.Bytes, S: string(b)} }

// read is the record that bytes tell, if they tell one. What they might tell is
// guessed generously, as telling it again shows whether they do.
func read(b []byte) (record, bool) {
	l, e := row.Decode(b)
	if e != api.OK || len(l) < 2 {
		return record{}, false
	}
	r := record{kind: kind(l[0].N), tx: int(l[1].N)}
	if len(l) >= 4 {
		r.change = Change{Space: l[2].S, Key: []byte(l[3].S), Drop: r.kind == dropped}
		for _, v := range l[4:] {
			r.change.Row = append(r.change.Row, v.S...)
		}
	}
	if !r.right() || !slices.Equal(r.values(), l) {
		return record{}, false
	}
	return r, true
}

// right tells whether there may be such a record. A snapshot is of no transaction;
// its records have 0 for it.
func (r record) right() bool {
	whose := valid(r.tx) && (r.kind < imageBegun || r.tx == 0)
	return r.kind >= begun && r.kind <= imageEnded && whose && r.change.fits()
}
