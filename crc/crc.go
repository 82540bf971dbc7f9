// Package crc is layer 1: check sums: see shared/doc/01-crc.md.
package crc

// poly is CRC-32's polynomial with its bits turned round, since bits leave a check sum at its low end.
const poly = 0xEDB88320

// sumLen is how many bytes a check sum takes behind what it seals.
const sumLen = 4

// Sum is the check sum.
func Sum(b []byte) uint32 {
	// No bytes have the check sum 0: all bits 1, turned in the end.
	return More(0, b)
}

// More is the check sum with bytes behind.
func More(sum uint32, b []byte) uint32 {
	// Turning all bits back takes up the work where the check sum ended it.
	state := ^sum
	for _, c := range b {
		state = turnByte(state, c)
	}
	return ^state
}

// turnByte takes one byte into a check sum that is under way.
func turnByte(state uint32, c byte) uint32 {
	state ^= uint32(c)
	for range 8 {
		left := state & 1
		state >>= 1
		if left == 1 {
			state ^= poly
		}
	}
	return state
}

// Seal puts the check sum behind bytes.
func Seal(b []byte) []byte {
	sum := Sum(b)
	// A list of its own: appending to b could write into the room behind it.
	sealed := make([]byte, 0, len(b)+sumLen)
	sealed = append(sealed, b...)
	return append(sealed, byte(sum), byte(sum>>8), byte(sum>>16), byte(sum>>24))
}

// Open takes it away.
func Open(b []byte) ([]byte, bool) {
	end := len(b) - sumLen
	if end < 0 || Sum(b[:end]) != readSum(b[end:]) {
		return nil, false
	}
	// A copy: a piece of b would let the caller write into b.
	load := make([]byte, end)
	copy(load, b)
	return load, true
}

// readSum reads a check sum, the lowest byte first.
func readSum(b []byte) uint32 {
	return uint32(b[0]) | uint32(b[1])<<8 | uint32(b[2])<<16 | uint32(b[3])<<24
}
