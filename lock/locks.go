package lock

import (
	"slices"

	"frankpledge/api"
)

// Locks is a lock table.
type Locks struct {
	granted []Lock // in the order in which they were
	waiting []Lock // in the order in which they came, at most one of a transaction
}

// New is a lock table without locks.
func New() *Locks { return &Locks{} }

// Ask asks for a lock, and tells whether its transaction has it now. If not, it
// waits behind all others, unless there is an error.
func (l *Locks) Ask(x Lock) (bool, api.Errno) {
	enough := func(y Lock) bool { return y.covers(x) }
	switch {
	case l == nil || !x.valid():
		return false, api.ErrArg
	case slices.ContainsFunc(l.waiting, of(x.Tx)):
		return false, api.ErrWaits
	case slices.ContainsFunc(l.granted, enough):
		return true, api.OK
	case len(l.granted)+len(l.waiting) >= api.MaxLocks:
		return false, api.ErrFull
	}
	return l.admit(x.copied()), api.OK
}

// Drop takes all locks of a transaction away, and tells whose locks are granted
// for that.
func (l *Locks) Drop(tx int) []int {
	if l == nil {
		return nil
	}
	l.granted = slices.DeleteFunc(l.granted, of(tx))
	return l.Cancel(tx)
}

// Cancel takes away the lock that a transaction waits for, and tells whose locks
// are granted for that.
func (l *Locks) Cancel(tx int) []int {
	if l == nil {
		return nil
	}
	waiting := slices.DeleteFunc(l.waiting, of(tx))
	l.waiting = nil
	var granted []int
	for _, x := range waiting {
		if l.admit(x) {
			granted = append(granted, x.Tx)
		}
	}
	return granted
}

// Granted are copies of a transaction's locks, in the order in which they were
// granted.
func (l *Locks) Granted(tx int) []Lock {
	if l == nil {
		return nil
	}
	return copies(l.granted, of(tx))
}

// Waiting are copies of the locks that wait, in order.
func (l *Locks) Waiting() []Lock {
	if l == nil {
		return nil
	}
	return copies(l.waiting, func(Lock) bool { return true })
}

// admit grants a lock, or lets it wait behind all others. A lock that waits stops
// those behind it that it conflicts with, also where they could be granted: so
// none waits for ever while others pass it.
func (l *Locks) admit(x Lock) bool {
	against := func(y Lock) bool { return Clash(x, y) }
	if slices.ContainsFunc(l.granted, against) || slices.ContainsFunc(l.waiting, against) {
		l.waiting = append(l.waiting, x)
		return false
	}
	l.granted = append(l.granted, x)
	return true
}

// of finds the locks of a transaction.
func of(tx int) func(Lock) bool {
	return func(x Lock) bool { return x.Tx == tx }
}

// copies are those of the locks that are wanted.
func copies(l []Lock, wanted func(Lock) bool) []Lock {
	var found []Lock
	for _, x := range l {
		if wanted(x) {
			found = append(found, x.copied())
		}
	}
	return found
}
