// Package wire is layer 1: numbers and vectors as bytes (shared/doc/01-wire.md).
package wire

import "escritoire/api"

// Reader is bytes that are taken from the front. New makes one; the zero Reader is none.
type Reader struct {
	made bool   // tells a reader of no bytes from one that New did not make
	rest []byte // the reader's own copy of what is left
}

// Num lays down b and the bytes of n, a number of that size, behind it.
func Num(b []byte, n uint64, size int) ([]byte, api.Errno) {
	if !isSize(size) {
		return nil, api.ErrArg
	}
	if !isNumber(n, size) {
		return nil, api.ErrLong
	}
	return lay(b, n, size, nil), api.OK
}

// Vec lays down b and data as a vector of that size behind it.
func Vec(b, data []byte, size int) ([]byte, api.Errno) {
	if !isVectorSize(size) {
		return nil, api.ErrArg
	}
	n := uint64(len(data))
	if !isNumber(n, size) {
		return nil, api.ErrLong
	}
	return lay(b, n, size, data), api.OK
}

// New makes a reader of a copy of b.
func New(b []byte) *Reader {
	return &Reader{made: true, rest: fresh(b)}
}

// Num takes a number of that size.
func (r *Reader) Num(size int) (uint64, api.Errno) {
	if !r.is() {
		return 0, api.ErrNil
	}
	if !isSize(size) {
		return 0, api.ErrArg
	}
	if len(r.rest) < size {
		return 0, api.ErrShort
	}
	n := number(r.rest, size)
	r.rest = r.rest[size:]
	return n, api.OK
}

// Vec takes a vector of that size.
func (r *Reader) Vec(size int) ([]byte, api.Errno) {
	if !r.is() {
		return nil, api.ErrNil
	}
	if !isVectorSize(size) {
		return nil, api.ErrArg
	}
	if len(r.rest) < size {
		return nil, api.ErrShort
	}
	n := number(r.rest, size)
	data := r.rest[size:]
	if uint64(len(data)) < n {
		return nil, api.ErrShort
	}
	r.rest = data[n:]
	return fresh(data[:n]), api.OK
}

// Take takes n bytes.
func (r *Reader) Take(n int) ([]byte, api.Errno) {
	if !r.is() {
		return nil, api.ErrNil
	}
	if n < 0 {
		return nil, api.ErrArg
	}
	if len(r.rest) < n {
		return nil, api.ErrShort
	}
	out := fresh(r.rest[:n])
	r.rest = r.rest[n:]
	return out, api.OK
}

// Left tells how many bytes are left.
func (r *Reader) Left() int {
	if !r.is() {
		return 0
	}
	return len(r.rest)
}

// is tells whether New made the reader.
func (r *Reader) is() bool {
	return r != nil && r.made
}

// isSize tells whether a number may have that size.
func isSize(size int) bool {
	return isVectorSize(size) || size == 4 || size == 8
}

// isVectorSize tells whether a vector may have that size.
func isVectorSize(size int) bool {
	return size >= 1 && size <= 3
}

// isNumber tells whether n is a number of that size: a shift by all 64 bits leaves none, so each n is one of size 8.
func isNumber(n uint64, size int) bool {
	return n>>(8*size) == 0
}

// lay is b, the bytes of n, and data, in memory of its own.
func lay(b []byte, n uint64, size int, data []byte) []byte {
	out := make([]byte, len(b)+size+len(data))
	copy(out, b)
	for i := range size {
		out[len(b)+i] = byte(n >> (8 * (size - 1 - i)))
	}
	copy(out[len(b)+size:], data)
	return out
}

// number is what the first bytes, as many as size, are as a number.
func number(b []byte, size int) uint64 {
	var n uint64
	for i := range size {
		n = n<<8 | uint64(b[i])
	}
	return n
}

// fresh is a copy of b, so that neither side sees what the other one does to its bytes.
func fresh(b []byte) []byte {
	out := make([]byte, len(b))
	copy(out, b)
	return out
}
