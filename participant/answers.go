package participant

import "frankpledge/api"

// vote answers Prepare. An active transaction becomes prepared, or over, first.
func (p *Participant) vote(l api.Letter) {
	if p.state(l.Tx) == active {
		p.prepare(l.Tx)
	}
	home := coordinator(l.Tx)
	switch p.state(l.Tx) {
	case prepared:
		p.know(l)
		p.send(api.Yes, l.Tx, home)
	case onlyRead:
		p.send(api.ReadOnly, l.Tx, home)
	case unknown:
		fallthrough
	case aborted:
		p.send(api.No, l.Tx, home)
	}
}

// prepare prepares an active transaction. What has no changes, or can't be prepared,
// ends here; as the log tells nothing of it, that can't fail.
func (p *Participant) prepare(tx int) {
	switch {
	case p.shard.Mark(tx) == 0:
		p.end(tx, onlyRead)
	case p.shard.Prepare(tx) != api.OK:
		p.end(tx, aborted)
	default:
		p.doubts[tx] = doubt{since: p.ticks}
	}
}

// decide ends a transaction as a letter tells, if it is not over yet. That a commit is
// done is told also if it was done long ago, as letters may be lost.
func (p *Participant) decide(l api.Letter) api.Errno {
	how := aborted
	if l.Kind == api.Commit {
		how = committed
	}
	switch p.state(l.Tx) {
	case active:
		fallthrough
	case prepared:
		if e := p.end(l.Tx, how); e != api.OK {
			return e
		}
	}
	if how == committed {
		p.send(api.Done, l.Tx, coordinator(l.Tx))
	}
	return api.OK
}

// answer tells another participant how a transaction ended here, if others may go by
// that.
func (p *Participant) answer(l api.Letter) {
	switch p.ended[l.Tx] {
	case committed:
		p.send(api.Commit, l.Tx, l.From)
	case aborted:
		p.send(api.Abort, l.Tx, l.From)
	}
}

// ask asks all that may know how a transaction ends.
func (p *Participant) ask(tx int, d doubt) {
	home := coordinator(tx)
	p.send(api.Ask, tx, home)
	for _, n := range d.nodes {
		if n != home && n != p.node {
			p.send(api.Ask, tx, n)
		}
	}
}

// coordinator is the node of a transaction's coordinator.
func coordinator(tx int) int { return tx % api.MaxNodes }

// send has a letter ready.
func (p *Participant) send(kind api.LetterKind, tx, to int) {
	p.out = append(p.out, api.Letter{Kind: kind, From: p.node, To: to, Tx: tx})
}
