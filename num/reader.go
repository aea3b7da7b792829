package num

import "newsstand/api"

// Reader reads numbers, texts, bytes and words, one behind the other; what can not be read makes it bad for good.
type Reader struct {
	rest []byte // what is left; nothing, once it is bad
	bad  bool
}

// From answers a reader of b, with a copy of its own: b is not kept.
func From(b []byte) *Reader {
	rest := make([]byte, len(b))
	copy(rest, b)
	return &Reader{rest: rest}
}

// Num answers the next number.
func (r *Reader) Num() int {
	if r.Bad() {
		return 0
	}
	n, size, e := Get(r.rest)
	if e != api.OK {
		r.spoil()
		return 0
	}
	r.rest = r.rest[size:]
	return n
}

// Text answers the next text.
func (r *Reader) Text() string {
	n := r.Num()
	if n > api.MaxBytes {
		r.spoil()
	}
	return string(r.take(n))
}

// Byte answers the next byte.
func (r *Reader) Byte() int {
	b := r.take(1)
	if len(b) == 0 {
		return 0
	}
	return int(b[0])
}

// Word answers the next word.
func (r *Reader) Word() uint32 {
	n := uint32(0)
	for i, x := range r.take(4) {
		n |= uint32(x) << (8 * i)
	}
	return n
}

// Left answers how many bytes are left.
func (r *Reader) Left() int {
	if r.Bad() {
		return 0
	}
	return len(r.rest)
}

// Bad tells whether something could not be read.
func (r *Reader) Bad() bool {
	return r == nil || r.bad
}

// take answers the next n bytes; none, and the reader is bad, if there are fewer.
func (r *Reader) take(n int) []byte {
	if r.Bad() {
		return nil
	}
	if n < 0 || n > len(r.rest) {
		r.spoil()
		return nil
	}
	b := r.rest[:n]
	r.rest = r.rest[n:]
	return b
}

func (r *Reader) spoil() {
	r.rest, r.bad = nil, true
}
