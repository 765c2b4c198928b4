package catalog

import (
	"slices"
	"sort"

	"frankpledge/api"
	"frankpledge/fault"
	"frankpledge/key"
	"frankpledge/value"
)

const (
	offset = 2166136261 // where FNV-1a begins
	prime  = 16777619
)

// Hash is the FNV-1a hash of bytes.
func Hash(b []byte) uint32 {
	h := uint32(offset)
	for _, c := range b {
		h = (h ^ uint32(c)) * prime
	}
	return h
}

// Parts is how many parts a table has.
func Parts(t api.Table) int {
	if t.Parts > 0 {
		return t.Parts
	}
	return len(t.Bounds) + 1
}

// Part is the number of the part in which the row with a key lies.
func Part(t api.Table, key []api.Value) (int, error) {
	invalid := func(v api.Value) bool { return !value.Right(v) }
	if !keyed(t) || len(key) != t.Key || slices.ContainsFunc(key, invalid) {
		return 0, fault.New(api.ErrKey, nowhere)
	}
	foreign := func(i int) bool { return key[i].Kind != t.Columns[i].Kind }
	if err := firstFault(t.Key, api.ErrKey, foreign); err != nil {
		return 0, err
	}
	if t.Parts > 0 {
		return scatter(key, t.Parts), nil
	}
	above := func(i int) bool { return value.Order(t.Bounds[i], key[0]) > 0 }
	return sort.Search(len(t.Bounds), above), nil
}

// Row is the key of a row: its first values.
func Row(t api.Table, row []api.Value) ([]api.Value, error) {
	if !keyed(t) || len(row) != len(t.Columns) {
		return nil, fault.New(api.ErrRow, nowhere)
	}
	foreign := func(i int) bool {
		v := row[i]
		return !value.Right(v) || v.Kind != api.Null && v.Kind != t.Columns[i].Kind
	}
	missing := func(i int) bool { return row[i].Kind == api.Null && t.Columns[i].Must }
	if err := firstFault(len(row), api.ErrType, foreign); err != nil {
		return nil, err
	}
	if err := firstFault(len(row), api.ErrNull, missing); err != nil {
		return nil, err
	}
	return values(row[:t.Key]), nil
}

// scatter is one of so many parts, by the hash of a key. A valid table's keys all
// have an encoding; one that is not valid may have more parts than there are hashes.
func scatter(l []api.Value, parts int) int {
	b, _ := key.Encode(l)
	return int(uint64(Hash(b)) % uint64(parts))
}
