package catalog

import (
	"slices"

	"frankpledge/api"
	"frankpledge/fault"
	"frankpledge/value"
)

const (
	nowhere   = -1 // the place of a fault that is no column's or value's
	maxName   = 20 // bytes of a name
	mostParts = 64 // of a table
)

// Right is nil for a valid table. Otherwise its fault tells of the first column
// that is wrong, unless something else is.
func Right(t api.Table) error {
	if !isName(t.Name) || len(t.Columns) > api.MaxValues || !keyed(t) || !parted(t) {
		return fault.New(api.ErrTable, nowhere)
	}
	return firstFault(len(t.Columns), api.ErrTable, func(i int) bool {
		c := t.Columns[i]
		same := func(other api.Column) bool { return other.Name == c.Name }
		return !isName(c.Name) || c.Kind < api.Bool || c.Kind > api.Bytes ||
			i < t.Key && !c.Must || slices.ContainsFunc(t.Columns[:i], same)
	})
}

// firstFault is a fault at the first of so many places that is wrong, nil if none is.
func firstFault(places int, code api.Errno, wrong func(i int) bool) error {
	for i := range places {
		if wrong(i) {
			return fault.New(code, i)
		}
	}
	return nil
}

// isName tells whether a table or column may have a name.
func isName(s string) bool {
	if len(s) < 1 || len(s) > maxName || !isLetter(s[0]) {
		return false
	}
	for _, b := range []byte(s) {
		if !isLetter(b) && (b < '0' || b > '9') && b != '_' {
			return false
		}
	}
	return true
}

func isLetter(b byte) bool { return 'a' <= b && b <= 'z' }

// keyed tells whether a table has columns for its key. Part and Row ask for that,
// too: they may be given a table that is not valid, and must not look for columns
// that are not there.
func keyed(t api.Table) bool { return 1 <= t.Key && t.Key <= len(t.Columns) }

// parted tells whether a table, which has a column, is divided into parts in one of
// the two ways.
func parted(t api.Table) bool {
	if t.Parts > 0 {
		return t.Parts <= mostParts && len(t.Bounds) == 0
	}
	if t.Parts < 0 || len(t.Bounds) >= mostParts {
		return false
	}
	return firstFault(len(t.Bounds), api.ErrTable, func(i int) bool {
		b := t.Bounds[i]
		return !value.Right(b) || b.Kind != t.Columns[0].Kind ||
			i > 0 && value.Order(t.Bounds[i-1], b) >= 0
	}) == nil
}
