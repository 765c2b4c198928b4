package value

import (
	"frankpledge/api"
	"frankpledge/fault"
)

// truth is false or true as a value.
func truth(holds bool) api.Value {
	if holds {
		return api.Value{Kind: api.Bool, N: 1}
	}
	return api.Value{Kind: api.Bool}
}

// isTruth tells whether a value is Null, false or true. They are compared
// whole, as a Null or Bool with anything else in it is not valid.
func isTruth(v api.Value) bool {
	return v == api.Value{} || v == truth(false) || v == truth(true)
}

// prevail is And or Or: they differ only in the truth that settles the answer
// whatever the other one is.
func prevail(a, b, strong api.Value) (api.Value, error) {
	switch {
	case !isTruth(a):
		return api.Value{}, fault.New(api.ErrType, 0)
	case !isTruth(b):
		return api.Value{}, fault.New(api.ErrType, 1)
	case a == strong || b == strong:
		return strong, nil
	case a == api.Value{}:
		return a, nil
	}
	return b, nil
}
