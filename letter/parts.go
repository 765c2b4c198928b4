package letter

import (
	"slices"

	"frankpledge/api"
)

// count is that of the numbers in a letter's row.
const count = 5

// parts is the row of a valid letter: its kind, from which node, to which one, its
// transaction, and the bits of its nodes.
func parts(l api.Letter) []api.Value {
	bits := 0
	for _, n := range l.Nodes {
		bits |= 1 << n
	}
	return []api.Value{integer(int(l.Kind)), integer(l.From), integer(l.To), integer(l.Tx), integer(bits)}
}

// integer is an Int.
func integer(n int) api.Value { return api.Value{Kind: api.Int, N: int64(n)} }

// whole is the letter of a row, if that has the numbers of one, which may be too
// great or too small. Bits beyond those of the nodes would be lost, so they are
// refused here.
func whole(r []api.Value) (api.Letter, bool) {
	other := func(v api.Value) bool { return v.Kind != api.Int }
	if len(r) != count || slices.ContainsFunc(r, other) {
		return api.Letter{}, false
	}
	kind, from, to, tx, bits := r[0].N, r[1].N, r[2].N, r[3].N, r[4].N
	if bits < 0 || bits >= 1<<api.MaxNodes {
		return api.Letter{}, false
	}
	return api.Letter{Kind: api.LetterKind(kind), From: int(from), To: int(to), Tx: int(tx), Nodes: nodes(bits)}, true
}

// nodes are those whose bits are set.
func nodes(bits int64) []int {
	var l []int
	for n := range api.MaxNodes {
		if bits>>n&1 == 1 {
			l = append(l, n)
		}
	}
	return l
}

// isNode tells whether a number is one of a node.
func isNode(n int) bool { return n >= 0 && n < api.MaxNodes }

// increasing tells whether numbers are nodes, each one greater than the one
// ahead of it; so there can't be more of them than there are nodes.
func increasing(l []int) bool {
	last := -1
	wrong := func(n int) bool {
		ahead := last
		last = n
		return n <= ahead || !isNode(n)
	}
	return !slices.ContainsFunc(l, wrong)
}
