// Package wire puts numbers and texts, one behind the other, as bytes, and takes them again: layer 1, shared/doc/01-wire.md.
package wire

import (
	"bytes"
	"slices"

	"quitrent/api"
)

// How many bytes a number has: a small one, one that tells a text's length, any other.
const (
	smallSize  = 1
	lengthSize = 4
	numberSize = 8
)

// Byte answers the bytes b, and v behind them.
func Byte(b []byte, v uint8) []byte {
	return slices.Concat(b, digits(uint64(v), smallSize))
}

// Uint answers the bytes b, and those of v behind them.
func Uint(b []byte, v uint64) []byte {
	return slices.Concat(b, digits(v, numberSize))
}

// Int answers the bytes b, and those of v behind them.
func Int(b []byte, v int64) []byte {
	return slices.Concat(b, digits(uint64(v), numberSize))
}

// Text answers the bytes b, and behind them the length of s, and s.
func Text(b []byte, s []byte) []byte {
	return slices.Concat(b, digits(uint64(len(s)), lengthSize), s)
}

// digits are the last size bytes of v, the highest first.
func digits(v uint64, size int) []byte {
	b := make([]byte, size)
	for i := range b {
		b[size-1-i] = byte(v >> (8 * i))
	}
	return b
}

// number is what digits were made of.
func number(b []byte) uint64 {
	var v uint64
	for _, x := range b {
		v = v<<8 | uint64(x)
	}
	return v
}

// Reader takes what was put.
type Reader struct {
	left   []byte // from its place on
	spoilt bool
}

// New is a reader of a copy of b.
func New(b []byte) *Reader {
	return &Reader{left: bytes.Clone(b)}
}

// take goes behind the next size bytes and answers what turn makes of them: zero, if the reader is spoilt, by that or before.
func take[T any](r *Reader, size uint64, turn func(b []byte) T) T {
	var none T
	if r == nil || r.spoilt {
		return none
	}
	// The sizes are held against each other unsigned: an int of 32 bits would make some lengths negative.
	if size > uint64(len(r.left)) {
		r.Bad()
		return none
	}
	b := r.left[:size]
	r.left = r.left[size:]
	return turn(b)
}

// Byte takes a small number.
func (r *Reader) Byte() uint8 {
	return take(r, smallSize, func(b []byte) uint8 { return b[0] })
}

// Uint takes a number.
func (r *Reader) Uint() uint64 {
	return take(r, numberSize, func(b []byte) uint64 { return number(b) })
}

// Int takes a number that may be negative.
func (r *Reader) Int() int64 {
	return take(r, numberSize, func(b []byte) int64 { return int64(number(b)) })
}

// Text takes a text.
func (r *Reader) Text() []byte {
	size := take(r, lengthSize, func(b []byte) uint64 { return number(b) })
	// Where the length spoilt the reader, there is nothing to take: take itself sees to that.
	return take(r, size, func(b []byte) []byte { return bytes.Clone(b) })
}

// Count takes a number of at most most; a greater one spoils the reader.
func (r *Reader) Count(most int) int {
	return take(r, numberSize, func(b []byte) int {
		n := number(b)
		if most < 0 || n > uint64(most) {
			r.Bad()
			return 0
		}
		return int(n)
	})
}

// Bad spoils the reader.
func (r *Reader) Bad() {
	if r != nil {
		r.spoilt = true
	}
}

// Done tells whether all was taken, and nothing amiss.
func (r *Reader) Done() api.Errno {
	if r == nil || r.spoilt || len(r.left) > 0 {
		return api.ErrForm
	}
	return api.OK
}
