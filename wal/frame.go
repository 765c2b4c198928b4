package wal

import "frankpledge/api"

const (
	mark       = 0x4C // the first byte of a frame
	head       = 5    // how many bytes of a frame stand ahead of its record
	start      = 0xFFFF
	polynomial = 0x1021 // without its highest power, which is shifted out
)

// Check is the CRC-16 of bytes.
func Check(b []byte) uint16 { return follow(start, b) }

// follow is the CRC-16 of bytes that follow others, whose CRC-16 is known: those
// of a frame that are checked don't stand side by side.
func follow(sum uint16, bytes []byte) uint16 {
	for _, b := range bytes {
		sum ^= uint16(b) << 8
		for range 8 {
			sum = sum<<1 ^ (sum>>15)*polynomial
		}
	}
	return sum
}

// checksum is that of a frame: of all behind the mark, but for the bytes in which
// the checksum itself stands.
func checksum(frame []byte) uint16 {
	return follow(Check(frame[1:3]), frame[head:])
}

// frame is a record as it stands on a disk.
func frame(record []byte) []byte {
	n := len(record) - 1
	f := append([]byte{mark, byte(n >> 8), byte(n), 0, 0}, record...)
	sum := checksum(f)
	f[3], f[4] = byte(sum>>8), byte(sum)
	return f
}

// first is the size of the frame with which bytes begin, and 0 if they begin with
// none. Two bytes can tell of more than a record may have: that is no frame.
func first(b []byte) int {
	if len(b) < head || b[0] != mark {
		return 0
	}
	n := pair(b[1:3]) + 1
	if n > api.MaxRecord || head+n > len(b) {
		return 0
	}
	if pair(b[3:5]) != int(checksum(b[:head+n])) {
		return 0
	}
	return head + n
}

// pair is the number that two bytes tell.
func pair(b []byte) int { return int(b[0])<<8 | int(b[1]) }
