package coordinator

import "frankpledge/api"

// vote counts the first vote of a participant. With the last one of all, or the first
// No, the transaction is decided.
func (c *Coordinator) vote(l api.Letter, t transaction) api.Errno {
	if t.state != voting || !t.open.has(l.From) {
		return api.OK
	}
	t.open = t.open.without(l.From)
	switch l.Kind {
	case api.No:
		c.abort(l.Tx, t.all.without(l.From))
	case api.Yes:
		t.yes = t.yes.with(l.From)
		fallthrough
	case api.ReadOnly:
		if t.open == 0 {
			return c.commit(l.Tx, t.yes)
		}
		c.known[l.Tx] = t
	}
	return api.OK
}

// commit decides a transaction for which all have voted. Those that only read have
// no part in it any more; if that is all of them, there is nothing to be told.
func (c *Coordinator) commit(tx int, yes set) api.Errno {
	if yes == 0 {
		delete(c.known, tx)
		return api.OK
	}
	if e := c.force(decision, tx, int(yes)); e != api.OK {
		return e
	}
	c.known[tx] = transaction{state: committed, open: yes, since: c.ticks}
	c.send(api.Commit, tx, yes)
	return api.OK
}

// abort forgets a transaction, and tells some nodes so.
func (c *Coordinator) abort(tx int, to set) {
	delete(c.known, tx)
	c.send(api.Abort, tx, to)
}

// done has a participant told, and forgets what all have been told. If the log has no
// room for that, it is as if power had taken the record: they are told once more when
// the log is opened again.
func (c *Coordinator) done(l api.Letter, t transaction) {
	if t.state != committed {
		return
	}
	t.open = t.open.without(l.From)
	if t.open != 0 {
		c.known[l.Tx] = t
		return
	}
	c.write(forgetting, l.Tx)
	delete(c.known, l.Tx)
}

// answer tells the sender of a letter how its transaction ended, if it did.
func (c *Coordinator) answer(l api.Letter, t transaction) {
	switch back := set(0).with(l.From); t.state {
	case committed:
		c.send(api.Commit, l.Tx, back)
	case unknown:
		c.send(api.Abort, l.Tx, back)
	}
}

// send has a letter ready for each of some nodes. Prepare names all participants.
func (c *Coordinator) send(kind api.LetterKind, tx int, to set) {
	for _, n := range to.list() {
		l := api.Letter{Kind: kind, From: c.node, To: n, Tx: tx}
		if kind == api.Prepare {
			l.Nodes = c.known[tx].all.list()
		}
		c.out = append(c.out, l)
	}
}
