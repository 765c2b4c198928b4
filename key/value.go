package key

import (
	"frankpledge/api"
	"frankpledge/value"
)

const (
	zero   = 0       // a byte of a text that is told by two, and the first one of its end
	stuff  = 255     // behind a zero that is the text's own
	end    = 1       // behind a zero that ends the text: below stuff, as what goes on comes later
	width  = 8       // bytes of an Int or Dec
	middle = 1 << 63 // added to a number, so that the least one is all zeros
)

// appendValue adds a valid value's encoding.
func appendValue(b []byte, v api.Value) []byte {
	b = append(b, byte(v.Kind))
	switch v.Kind {
	case api.Bool:
		return appendNumber(b, uint64(v.N), 1)
	case api.Int:
		fallthrough
	case api.Dec:
		return appendNumber(b, uint64(v.N)+middle, width)
	case api.Text:
		fallthrough
	case api.Bytes:
		return appendText(b, v.S)
	}
	return b
}

// appendNumber has the greatest of so many bytes ahead, as it counts first.
func appendNumber(b []byte, n uint64, size int) []byte {
	for i := range size {
		b = append(b, byte(n>>(8*(size-1-i))))
	}
	return b
}

// appendText marks each zero of a text, so that none is taken for its end.
func appendText(b []byte, s string) []byte {
	for _, c := range []byte(s) {
		b = append(b, c)
		if c == zero {
			b = append(b, stuff)
		}
	}
	return append(b, zero, end)
}

// cutValue is the valid value whose encoding bytes begin with, if there is one,
// and the bytes behind it. There is at least one byte.
func cutValue(b []byte) (v api.Value, rest []byte, ok bool) {
	v, rest, ok = api.Value{Kind: api.Kind(b[0])}, b[1:], true
	var n uint64
	switch v.Kind {
	case api.Bool:
		n, rest, ok = cutNumber(rest, 1)
		v.N = int64(n)
	case api.Int:
		fallthrough
	case api.Dec:
		n, rest, ok = cutNumber(rest, width)
		v.N = int64(n - middle)
	case api.Text:
		fallthrough
	case api.Bytes:
		v.S, rest, ok = cutText(rest)
	}
	return v, rest, ok && value.Right(v)
}

// cutNumber is a number of some bytes, the greatest one ahead, and what is
// behind it.
func cutNumber(b []byte, size int) (n uint64, rest []byte, ok bool) {
	if len(b) < size {
		return 0, nil, false
	}
	for _, c := range b[:size] {
		n = n<<8 | uint64(c)
	}
	return n, b[size:], true
}

// cutText is a text up to its end, and what is behind that. A zero says what it
// is by the byte behind it.
func cutText(b []byte) (s string, rest []byte, ok bool) {
	var text []byte
	for i := 0; i+1 < len(b); i++ {
		if b[i] != zero {
			text = append(text, b[i])
			continue
		}
		i++
		switch b[i] {
		case stuff:
			text = append(text, zero)
		case end:
			return string(text), b[i+1:], true
		default:
			return "", nil, false
		}
	}
	return "", nil, false
}
