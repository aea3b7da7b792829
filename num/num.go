// Package num is layer 1: numbers and texts as bytes. See shared/doc/01-num.md.
package num

import "newsstand/api"

// maxFold is the fold of MaxInt, the greatest fold of a number.
const maxFold = 2 * api.MaxInt

// maxGroups is how many groups of 7 bits the greatest fold has.
const maxGroups = 8

// Put answers the number's bytes.
func Put(n int) ([]byte, api.Errno) {
	if n < -api.MaxInt || n > api.MaxInt {
		return nil, api.ErrNum
	}
	var b []byte
	f := fold(n)
	for f >= 0x80 {
		b = append(b, byte(f)|0x80)
		f >>= 7
	}
	return append(b, byte(f)), api.OK
}

// Get answers the number that b begins with, and how many bytes it takes.
func Get(b []byte) (int, int, api.Errno) {
	f := uint64(0)
	for i := range min(len(b), maxGroups) {
		f |= uint64(b[i]&0x7f) << (7 * i)
		if b[i] >= 0x80 {
			continue
		}
		if b[i] == 0 && i > 0 || f > maxFold { // a group that is not needed is another form of a smaller number's
			return 0, 0, api.ErrNum
		}
		return unfold(f), i + 1, api.OK
	}
	return 0, 0, api.ErrNum
}

// fold gives small numbers of either sign small folds, so that they take few bytes.
func fold(n int) uint64 {
	if n < 0 {
		return uint64(-n)<<1 - 1
	}
	return uint64(n) << 1
}

func unfold(f uint64) int {
	if f&1 == 1 {
		return -int(f>>1) - 1
	}
	return int(f >> 1)
}

// Text answers the text's bytes: their number, and themselves.
func Text(s string) ([]byte, api.Errno) {
	if len(s) > api.MaxBytes {
		return nil, api.ErrLong
	}
	b, e := Put(len(s))
	return append(b, s...), e
}

// Word answers the word's bytes, the lowest first.
func Word(n uint32) []byte {
	return []byte{byte(n), byte(n >> 8), byte(n >> 16), byte(n >> 24)}
}
