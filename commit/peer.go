package commit

import (
	"frankpledge/api"
	"frankpledge/coordinator"
	"frankpledge/disk"
	"frankpledge/participant"
	"frankpledge/shard"
)

// space is where a shard has all rows of a world.
const space = "t"

// peer is a node, with all that is on it.
type peer struct {
	disks       [2]*disk.Disk // the coordinator's, and the shard's
	coordinator *coordinator.Coordinator
	shard       *shard.Shard
	participant *participant.Participant
}

// open is the node that two disks tell of.
func open(node int, disks [2]*disk.Disk) (*peer, api.Errno) {
	c, e := coordinator.Open(disks[0], node)
	if e != api.OK {
		return nil, e
	}
	s, e := shard.Open(disks[1])
	if e != api.OK {
		return nil, e
	}
	p, e := participant.New(s, node)
	if e != api.OK {
		return nil, e
	}
	return &peer{disks, c, s, p}, api.OK
}

// power is the node that a loss of power leaves. As it is on disks of its own, nothing
// has happened if it can't be opened.
func (p *peer) power(node int, keep [2]int) (*peer, api.Errno) {
	var left [2]*disk.Disk
	for i, d := range p.disks {
		left[i] = d.Power(keep[i])
	}
	return open(node, left)
}

// put puts a row for a transaction, which begins with it if it is unknown here. If the
// row can't be put, it has not begun.
func (p *peer) put(tx int, key, row []byte) api.Errno {
	e := p.shard.Put(tx, space, key, row)
	if e != api.ErrNoTx {
		return e
	}
	if e := p.shard.Begin(tx); e != api.OK {
		return e
	}
	e = p.shard.Put(tx, space, key, row)
	if e != api.OK {
		p.shard.Abort(tx)
	}
	return e
}

// tick is one more tick for all that count them.
func (p *peer) tick() api.Errno {
	if e := p.coordinator.Tick(); e != api.OK {
		return e
	}
	return p.participant.Tick()
}
