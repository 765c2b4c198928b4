package row

import (
	"frankpledge/api"
	"frankpledge/value"
)

const (
	digit   = 7          // bits of a number that a byte of its varint holds
	more    = 1 << digit // set in each byte that isn't the last one
	longest = 10         // bytes of a varint: 64 bits, rounded up
	top     = 1          // the greatest last one of so many: 63 bits lie below it
)

// appendValue adds a valid value's encoding.
func appendValue(b []byte, v api.Value) []byte {
	b = append(b, byte(v.Kind))
	switch v.Kind {
	case api.Bool:
		return append(b, byte(v.N))
	case api.Int:
		fallthrough
	case api.Dec:
		return append(b, Short(v.N)...)
	case api.Text:
		fallthrough
	case api.Bytes:
		b = append(b, Short(int64(len(v.S)))...)
		return append(b, v.S...)
	}
	return b
}

// source hands out bytes one by one, false when there are no more.
type source func() (byte, bool)

// consume is a source of bytes, which keeps in mind how far it is.
func consume(b []byte) source {
	return func() (byte, bool) {
		if len(b) == 0 {
			return 0, false
		}
		c := b[0]
		b = b[1:]
		return c, true
	}
}

// takeValue consumes the encoding of a valid value, if it is one.
func takeValue(next source) (v api.Value, ok bool) {
	c, ok := next()
	if !ok {
		return api.Value{}, false
	}
	v.Kind = api.Kind(c)
	switch v.Kind {
	case api.Bool:
		c, ok = next()
		v.N = int64(c)
	case api.Int:
		fallthrough
	case api.Dec:
		v.N, _, ok = takeNumber(next)
	case api.Text:
		fallthrough
	case api.Bytes:
		v.S, ok = takeText(next)
	}
	return v, ok && value.Right(v)
}

// takeNumber consumes a varint, if it is one, and counts its bytes. A last byte
// of 0 would make a number longer that has a shorter varint.
func takeNumber(next source) (n int64, size int, ok bool) {
	var u uint64
	for i := range longest {
		c, left := next()
		if !left {
			return 0, 0, false
		}
		u |= uint64(c%more) << (digit * i)
		if c >= more {
			continue
		}
		if c == 0 && i > 0 || c > top && i == longest-1 {
			return 0, 0, false
		}
		return int64(u>>1) ^ -int64(u&1), i + 1, true
	}
	return 0, 0, false
}

// takeText consumes a length and so many bytes, if there are. The length is
// held against the limit first, as it may be told of any size.
func takeText(next source) (string, bool) {
	n, _, ok := takeNumber(next)
	if !ok || n < 0 || n > api.MaxText {
		return "", false
	}
	text := make([]byte, n)
	for i := range text {
		if text[i], ok = next(); !ok {
			return "", false
		}
	}
	return string(text), true
}
