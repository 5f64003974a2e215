package wire

import (
	"math"

	"concord/api"
)

// mostDigits is how many digits to the base 128 a number of 64 bits has at most.
const mostDigits = 10

// Reader takes bytes from the front of bytes.
type Reader struct {
	bytes string
	at    int
	err   api.Errno
}

// NewReader makes one over these bytes.
func NewReader(s string) *Reader { return &Reader{bytes: s} }

// Byte takes one byte.
func (r *Reader) Byte() uint8 { return uint8(r.Fixed(1)) }

// Small takes two bytes.
func (r *Reader) Small() int16 { return int16(r.Fixed(2)) }

// Fixed takes n bytes, the highest first.
func (r *Reader) Fixed(n int) uint64 {
	if n < 1 || n > 8 {
		r.Fail(api.ErrArg)
		return 0
	}
	s := r.Raw(n)
	var v uint64
	for i := range len(s) {
		v <<= 8
		v |= uint64(s[i])
	}
	return v
}

// Uint takes a number to the base 128, at most most.
func (r *Reader) Uint(most uint64) uint64 {
	if r.stopped() {
		return 0
	}
	v, used, e := digits(r.bytes[r.at:])
	if e == api.OK && v > most {
		e = api.ErrLong
	}
	if e != api.OK {
		r.Fail(e)
		return 0
	}
	r.at += used
	return v
}

// Int takes a number with a sign.
func (r *Reader) Int() int64 {
	u := r.Uint(math.MaxUint64)
	v := int64(u >> 1)
	if u&1 != 0 {
		v = ^v
	}
	return v
}

// Float takes eight bytes.
func (r *Reader) Float() float64 {
	from := r.At()
	bits := r.Fixed(8)
	v := math.Float64frombits(bits)
	if math.IsNaN(v) && bits != oneNaN {
		r.back(from)
		r.Fail(api.ErrForm)
		return 0
	}
	return v
}

// Text takes a length, at most most, and the bytes.
func (r *Reader) Text(most int) string {
	if most < 0 {
		r.Fail(api.ErrArg)
		return ""
	}
	from := r.At()
	s := r.Raw(int(r.Uint(uint64(most))))
	if r.stopped() {
		r.back(from) // the length may have been taken, the bytes not
	}
	return s
}

// Raw takes n bytes.
func (r *Reader) Raw(n int) string {
	if r.stopped() {
		return ""
	}
	if n < 0 {
		r.Fail(api.ErrArg)
		return ""
	}
	if n > r.Left() {
		r.Fail(api.ErrShort)
		return ""
	}
	s := r.bytes[r.at : r.at+n]
	r.at += n
	return s
}

// Fail notes an error, if there is none.
func (r *Reader) Fail(e api.Errno) {
	if r.stopped() {
		return
	}
	r.err = e
}

// At is how many bytes were taken.
func (r *Reader) At() int {
	if r == nil {
		return 0
	}
	return r.at
}

// Left is how many bytes are left.
func (r *Reader) Left() int {
	if r == nil {
		return 0
	}
	return len(r.bytes) - r.at
}

// Err is the first error.
func (r *Reader) Err() api.Errno {
	if r == nil {
		return api.ErrNil
	}
	return r.err
}

// End is the first error, or says whether bytes are left.
func (r *Reader) End() api.Errno {
	if r.stopped() {
		return r.Err()
	}
	if r.Left() > 0 {
		return api.ErrRest
	}
	return api.OK
}

// stopped says whether there is nothing to take, and no error to note any more.
func (r *Reader) stopped() bool { return r.Err() != api.OK }

// back gives back what was taken behind a place.
func (r *Reader) back(from int) {
	if r != nil {
		r.at = from
	}
}

// digits is the uint that stands at the front of s, and of how many bytes it is.
func digits(s string) (uint64, int, api.Errno) {
	var v uint64
	for i := range min(len(s), mostDigits) {
		d := s[i]
		if i == mostDigits-1 && d > 1 {
			return 0, 0, api.ErrLong
		}
		v |= uint64(d&127) << (7 * i)
		if d >= 128 {
			continue
		}
		if i > 0 && d == 0 {
			return 0, 0, api.ErrLong
		}
		return v, i + 1, api.OK
	}
	return 0, 0, api.ErrShort
}
