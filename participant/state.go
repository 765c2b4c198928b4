package participant

import (
	"slices"

	"frankpledge/api"
)

// state is what a participant knows of a transaction, by the numbers of Known.
type state int

const (
	unknown state = iota
	active
	prepared
	committed
	aborted
	onlyRead
)

// doubt is what a participant knows of a prepared transaction.
type doubt struct {
	nodes []int // the participants, if a Prepare named them
	since int   // the tick at which it was prepared, or last asked
}

// state is what a transaction is at the shard or, if it is nothing there, how it ended
// here. No transaction goes back to the mark -1: so nothing changes, and the error
// tells which transaction this is.
func (p *Participant) state(tx int) state {
	switch p.shard.Back(tx, -1) {
	case api.ErrNoTx:
		return p.ended[tx]
	case api.ErrDoubt:
		return prepared
	}
	return active
}

// look takes in which transactions are prepared at the shard, as others may have called
// it, too.
func (p *Participant) look() {
	for tx := range p.doubts {
		if p.state(tx) != prepared {
			delete(p.doubts, tx)
		}
	}
	for _, tx := range p.shard.Doubts() {
		p.doubts[tx] = p.doubt(tx)
	}
}

// doubt is what is known of a prepared transaction. What is seen for the first time was
// prepared since the last tick, or ahead of all of them.
func (p *Participant) doubt(tx int) doubt {
	if d, seen := p.doubts[tx]; seen {
		return d
	}
	return doubt{since: p.ticks}
}

// know has the participants known that a Prepare names. If it names none, those of an
// earlier one stay known.
func (p *Participant) know(l api.Letter) {
	d := p.doubt(l.Tx)
	if len(l.Nodes) > 0 {
		d.nodes = slices.Clone(l.Nodes)
	}
	p.doubts[l.Tx] = d
}

// end has the shard end a transaction, and remembers how.
func (p *Participant) end(tx int, how state) api.Errno {
	do := p.shard.Abort
	if how == committed {
		do = p.shard.Commit
	}
	if e := do(tx); e != api.OK {
		return e
	}
	p.ended[tx] = how
	p.over = append(p.over, tx)
	delete(p.doubts, tx)
	return api.OK
}
