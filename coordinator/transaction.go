package coordinator

import "frankpledge/api"

// state is what a transaction has come to.
type state int

const (
	unknown state = iota // forgotten, or never begun
	begun
	voting
	committed
)

// transaction is one of a coordinator.
type transaction struct {
	state state
	all   set // the participants of one that is voting
	open  set // those that have not voted, or are still to be told
	yes   set // those that voted Yes
	since int // the tick at which it was last asked or told
}

// question is what is to be sent to those that have not answered.
func (t transaction) question() api.LetterKind {
	if t.state == committed {
		return api.Commit
	}
	return api.Prepare
}

// set is a set of nodes, of which each one is a bit, as in the log.
type set int

func setOf(nodes []int) set {
	var s set
	for _, n := range nodes {
		s = s.with(n)
	}
	return s
}

func (s set) has(node int) bool    { return s>>node&1 == 1 }
func (s set) with(node int) set    { return s | 1<<node }
func (s set) without(node int) set { return s &^ (1 << node) }

// list are the nodes of a set, the least one first.
func (s set) list() []int {
	var l []int
	for n := range api.MaxNodes {
		if s.has(n) {
			l = append(l, n)
		}
	}
	return l
}
