package dvv

import (
	"math"

	"concord/api"
	"concord/vector"
	"concord/wire"
)

// The byte of a sibling that tells whether it is gone.
const (
	thereMark = 0
	goneMark  = 1
)

// Encode is a state's bytes.
func Encode(s api.State) (string, api.Errno) {
	if !Valid(s) {
		return "", api.ErrState
	}
	w := wire.NewWriter()
	vector.Put(w, s.Seen)
	w.Uint(uint64(len(s.Siblings)))
	for _, x := range s.Siblings {
		putSibling(w, x)
	}
	return w.Told(), api.OK
}

func putSibling(w *wire.Writer, x api.Sibling) {
	w.Uint(uint64(x.Dot.Actor))
	w.Uint(x.Dot.Count)
	if x.Gone {
		w.Byte(goneMark)
	} else {
		w.Byte(thereMark)
	}
	w.Text(x.Value)
}

// Decode is the state whose bytes they are.
func Decode(s string) (api.State, api.Errno) {
	r := wire.NewReader(s)
	state := takeState(r)
	if r.End() != api.OK || !Valid(state) {
		return api.State{}, api.ErrState
	}
	return state, api.OK
}

// takeState takes a state that may not be yet: what is wrong with the bytes is noted by the reader.
func takeState(r *wire.Reader) api.State {
	s := api.State{Seen: vector.Take(r)}
	for left := r.Uint(api.MaxDots); left > 0 && r.Err() == api.OK; left-- {
		s.Siblings = append(s.Siblings, takeSibling(r))
	}
	return s
}

func takeSibling(r *wire.Reader) api.Sibling {
	actor := r.Uint(math.MaxUint32)
	count := r.Uint(api.MaxCount)
	mark := r.Byte()
	if mark != thereMark && mark != goneMark {
		r.Fail(api.ErrState)
	}
	value := r.Text(api.MaxValue)
	return api.Sibling{Dot: api.Dot{Actor: uint32(actor), Count: count}, Gone: mark == goneMark, Value: value}
}
