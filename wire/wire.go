// Package wire is layer 1: bytes are written and read, and summed up; see shared/doc/01-wire.md.
package wire

import (
	"math"

	"concord/api"
)

// oneNaN are the bits of the only NaN that has a form: one form each, also for what has many bit patterns.
const oneNaN = 0x7FF8000000000000

// Writer puts bytes behind bytes.
type Writer struct {
	held []byte
}

// NewWriter makes one that holds nothing.
func NewWriter() *Writer { return &Writer{} }

// Byte puts one byte.
func (w *Writer) Byte(v uint8) {
	if w == nil {
		return
	}
	w.held = append(w.held, v)
}

// Small puts two bytes.
func (w *Writer) Small(v int16) { w.lowest(uint64(v), 2) }

// Fixed puts n bytes, the highest first.
func (w *Writer) Fixed(v uint64, n int) api.Errno {
	if w == nil {
		return api.ErrNil
	}
	if n < 1 || n > 8 || v>>(8*n) != 0 {
		return api.ErrArg
	}
	w.lowest(v, n)
	return api.OK
}

// Uint puts a number to the base 128.
func (w *Writer) Uint(v uint64) {
	for v >= 128 {
		w.Byte(uint8(v) | 128)
		v >>= 7
	}
	w.Byte(uint8(v))
}

// Int puts a number with a sign.
func (w *Writer) Int(v int64) {
	u := uint64(v) << 1
	if v < 0 {
		u = ^u // -2v - 1, without leaving 64 bits for the least v
	}
	w.Uint(u)
}

// Float puts eight bytes.
func (w *Writer) Float(v float64) {
	bits := math.Float64bits(v)
	if math.IsNaN(v) {
		bits = oneNaN
	}
	w.lowest(bits, 8)
}

// Text puts a length and the bytes.
func (w *Writer) Text(s string) {
	w.Uint(uint64(len(s)))
	w.Raw(s)
}

// Raw puts the bytes alone.
func (w *Writer) Raw(s string) {
	if w == nil {
		return
	}
	w.held = append(w.held, s...)
}

// Len is how many bytes it holds.
func (w *Writer) Len() int {
	if w == nil {
		return 0
	}
	return len(w.held)
}

// Told is what it holds.
func (w *Writer) Told() string {
	if w == nil {
		return ""
	}
	return string(w.held)
}

// lowest puts the lowest n bytes of v, of these the highest first.
func (w *Writer) lowest(v uint64, n int) {
	for i := range n {
		w.Byte(uint8(v >> (8 * (n - 1 - i))))
	}
}
