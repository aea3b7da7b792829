// Package crc is layer 2: sums of bytes. See shared/doc/02-crc.md.
package crc

import (
	"newsstand/api"
	"newsstand/num"
)

// sumSize is how many bytes a sum has behind what is sealed.
const sumSize = 4

// halves is what each half of a byte that leaves the register turns in the rest of it: the polynomial's bits, the highest power lowest.
var halves = [16]uint32{
	0x00000000, 0x1db71064, 0x3b6e20c8, 0x26d930ac,
	0x76dc4190, 0x6b6b51f4, 0x4db26158, 0x5005713c,
	0xedb88320, 0xf00f9344, 0xd6d6a3e8, 0xcb61b38c,
	0x9b64c2b0, 0x86d3d2d4, 0xa00ae278, 0xbdbdf21c,
}

// Sum answers the sum of b.
func Sum(b []byte) uint32 {
	return More(0, b)
}

// More answers the sum of a text of that sum with b behind it: turned back, the sum is the register as it was behind that text.
func More(sum uint32, b []byte) uint32 {
	r := ^sum
	for _, x := range b {
		r ^= uint32(x)
		r = r>>4 ^ halves[r&15]
		r = r>>4 ^ halves[r&15]
	}
	return ^r
}

// Seal answers b with its sum behind it, in new memory: the room behind the end of b is not its own.
func Seal(b []byte) []byte {
	sealed := make([]byte, len(b)+sumSize)
	copy(sealed, b)
	copy(sealed[len(b):], num.Word(Sum(b)))
	return sealed
}

// Open answers what was sealed.
func Open(b []byte) ([]byte, api.Errno) {
	n := len(b) - sumSize
	if n < 0 || num.From(b[n:]).Word() != Sum(b[:n]) {
		return nil, api.ErrSum
	}
	inner := make([]byte, n)
	copy(inner, b)
	return inner, api.OK
}
