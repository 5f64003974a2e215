package vector

import (
	"math"

	"concord/api"
	"concord/wire"
)

// Encode is a vector as bytes.
func Encode(v []api.Dot) (string, api.Errno) {
	w := wire.NewWriter()
	if e := Put(w, v); e != api.OK {
		return "", e
	}
	return w.Told(), api.OK
}

// Decode is the vector that bytes are.
func Decode(s string) ([]api.Dot, api.Errno) {
	r := wire.NewReader(s)
	v := Take(r)
	if r.End() != api.OK {
		return nil, api.ErrVector
	}
	return v, api.OK
}

// Put puts a vector.
func Put(w *wire.Writer, v []api.Dot) api.Errno {
	if w == nil {
		return api.ErrNil
	}
	if !Valid(v) {
		return api.ErrVector
	}
	w.Uint(uint64(len(v)))
	for _, d := range v {
		w.Uint(uint64(d.Actor))
		w.Uint(d.Count)
	}
	return api.OK
}

// Take takes a vector.
func Take(r *wire.Reader) []api.Dot {
	v := takeDots(r)
	if !Valid(v) {
		r.Fail(api.ErrVector) // which leaves an earlier error as it is
	}
	if r.Err() != api.OK {
		return nil
	}
	return v
}

// takeDots takes dots that may not be a vector yet: what wire refuses is noted by the reader.
func takeDots(r *wire.Reader) []api.Dot {
	var v []api.Dot
	for left := r.Uint(api.MaxDots); left > 0 && r.Err() == api.OK; left-- {
		actor := r.Uint(math.MaxUint32)
		count := r.Uint(api.MaxCount)
		v = append(v, api.Dot{Actor: uint32(actor), Count: count})
	}
	return v
}
