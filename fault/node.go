package fault

import (
	"errors"
	"strconv"
	"strings"

	"frankpledge/api"
)

// node is an error that this package made.
type node interface {
	error
	depth() int
	tell(b *strings.Builder)
}

// fault is one code at one place, laid over what it wraps.
type fault struct {
	code  api.Errno
	at    int
	under node
	deep  int
}

// joined is two errors. It has Is and As instead of Unwrap: an error may be
// joined with itself many times over, and errors.Is would enter it as often as
// it occurs.
type joined struct {
	first, second node
	deep          int
}

// query is the target by which errors.Is looks for a code. It remembers where
// it has been, so that no joined errors are searched twice.
type query struct {
	code api.Errno
	been map[*joined]struct{}
}

// own is an error as a node. One from elsewhere counts as nil, and none of its
// methods is called: they might never end.
func own(e error) node {
	if n, ok := e.(node); ok {
		return n
	}
	return nil
}

// lead is the first fault of an error, nil if it has none.
func lead(e error) *fault {
	var f *fault
	if errors.As(own(e), &f) {
		return f
	}
	return nil
}

// visit shows all faults of an error in order.
func visit(e error, show func(f *fault)) {
	switch x := e.(type) {
	case *fault:
		show(x)
		visit(x.under, show)
	case *joined:
		visit(x.first, show)
		visit(x.second, show)
	}
}

// depth is that of a node, 0 for nil.
func depth(n node) int {
	if n == nil {
		return 0
	}
	return n.depth()
}

// text is told into one builder, as texts of texts would be copied at each
// level.
func text(n node) string {
	var b strings.Builder
	n.tell(&b)
	return b.String()
}

func (f *fault) depth() int    { return f.deep }
func (f *fault) Error() string { return text(f) }
func (f *fault) Unwrap() error { return f.under }

// Is tells whether this fault, without what it wraps, has the code of a query.
func (f *fault) Is(target error) bool {
	q, ok := target.(*query)
	return ok && q.code == f.code
}

func (f *fault) tell(b *strings.Builder) {
	b.WriteString("fault " + strconv.Itoa(int(f.code)) + " at " + strconv.Itoa(f.at))
	if f.under != nil {
		b.WriteString(": ")
		f.under.tell(b)
	}
}

func (j *joined) depth() int    { return j.deep }
func (j *joined) Error() string { return text(j) }

func (j *joined) Is(target error) bool {
	if q, ok := target.(*query); ok && !q.enter(j) {
		return false
	}
	return errors.Is(j.first, target) || errors.Is(j.second, target)
}

func (j *joined) As(target any) bool {
	return errors.As(j.first, target) || errors.As(j.second, target)
}

func (j *joined) tell(b *strings.Builder) {
	b.WriteString("(")
	j.first.tell(b)
	b.WriteString("; ")
	j.second.tell(b)
	b.WriteString(")")
}

func (q *query) Error() string { return "a query for fault " + strconv.Itoa(int(q.code)) }

// enter tells whether the query has not been at these joined errors before.
func (q *query) enter(j *joined) bool {
	if _, ok := q.been[j]; ok {
		return false
	}
	q.been[j] = struct{}{}
	return true
}
