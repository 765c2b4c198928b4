// Package fault is layer 1: errors with codes and places, which wrap and join
// each other.
package fault

import (
	"errors"

	"frankpledge/api"
)

// New is a fault that wraps nothing; nil for the code OK.
func New(code api.Errno, at int) error {
	if code == api.OK {
		return nil
	}
	return &fault{code: code, at: at, deep: 1}
}

// Wrap lays a fault over an error; nil stays nil, and the code OK adds nothing.
func Wrap(e error, code api.Errno, at int) error {
	if e == nil || code == api.OK {
		return e
	}
	under := own(e)
	return &fault{code: code, at: at, under: under, deep: 1 + depth(under)}
}

// Join joins two errors; if one is nil, the other one is the answer.
func Join(a, b error) error {
	first, second := own(a), own(b)
	if first == nil && b != nil {
		return b
	}
	if second == nil {
		return a
	}
	return &joined{first: first, second: second, deep: max(depth(first), depth(second))}
}

// Code is an error's first code, OK for nil.
func Code(e error) api.Errno {
	f := lead(e)
	if f == nil {
		return api.OK
	}
	return f.code
}

// At is an error's first place, -1 for nil.
func At(e error) int {
	f := lead(e)
	if f == nil {
		return -1
	}
	return f.at
}

// Has tells whether a code is one of an error's; OK never is.
func Has(e error, code api.Errno) bool {
	if code == api.OK {
		return false
	}
	return errors.Is(own(e), &query{code: code, been: map[*joined]struct{}{}})
}

// Codes are all codes of an error in order.
func Codes(e error) []api.Errno {
	var codes []api.Errno
	visit(e, func(f *fault) { codes = append(codes, f.code) })
	return codes
}

// Places are all places of an error in order, one for each code.
func Places(e error) []int {
	var places []int
	visit(e, func(f *fault) { places = append(places, f.at) })
	return places
}

// Deep is how many faults lie over each other at the most.
func Deep(e error) int {
	return depth(own(e))
}
