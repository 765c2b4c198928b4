package shard

import (
	"maps"

	"frankpledge/api"
	"frankpledge/row"
	"frankpledge/wal"
)

// write logs records, all of them or, if there is no room for all, none.
func (s *Shard) write(l []record) api.Errno {
	room := api.MaxDisk - (s.disk.End() - s.disk.Begin())
	var encoded [][]byte
	for _, r := range l {
		b, e := row.Encode(r.values())
		if e != api.OK {
			return e
		}
		if room -= head + len(b); room < 0 {
			return api.ErrFull
		}
		encoded = append(encoded, b)
	}
	for _, b := range encoded {
		if _, e := s.log.Append(b); e != api.OK {
			return e
		}
	}
	return api.OK
}

// records are those of a log, up to the first one that is none of a shard's.
func records(log *wal.Wal) []record {
	var l []record
	for _, n := range log.Numbers() {
		b, _ := log.Read(n)
		r, ok := read(b)
		if !ok {
			break
		}
		l = append(l, r)
	}
	return l
}

// lastImage are the rows of the last snapshot that is whole, and the records behind
// it; if there is none, all records.
func lastImage(l []record) (rows, behind []record) {
	behind = l
	first := -1 // of the rows of a snapshot that may become whole; -1 for none
	for i, r := range l {
		switch r.kind {
		case imageBegun:
			first = i + 1
		case imageRow:
		case imageEnded:
			if first >= 0 {
				rows, behind = l[first:i], l[i+1:]
			}
			fallthrough
		default:
			first = -1
		}
	}
	return rows, behind
}

// replay does what the records of a log tell. Transactions that were not prepared
// when power went are forgotten.
func (s *Shard) replay(l []record) {
	rows, behind := lastImage(l)
	for _, r := range rows {
		s.lay(r.change)
	}
	for _, r := range behind {
		s.redo(r)
	}
	maps.DeleteFunc(s.known, func(_ int, t *transaction) bool { return !t.prepared })
}

// redo does what one record tells of its transaction. Those of snapshots tell
// nothing here.
func (s *Shard) redo(r record) {
	switch r.kind {
	case put:
		fallthrough
	case dropped:
		s.recall(r.tx).add(r.change)
	case prepared:
		s.recall(r.tx).prepared = true
	case committed:
		s.settle(s.recall(r.tx))
		fallthrough
	case aborted:
		fallthrough
	case begun:
		delete(s.known, r.tx)
	}
}

// recall is a transaction of the log, which may have no records yet.
func (s *Shard) recall(tx int) *transaction {
	if s.known[tx] == nil {
		s.known[tx] = begin()
	}
	return s.known[tx]
}
