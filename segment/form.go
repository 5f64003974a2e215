package segment

import (
	"concord/api"
	"concord/digest"
	"concord/wire"
)

// formMark is the first byte of a segment's form, by which it is unlike an object's or a node's.
const formMark = 0x53

// Form is the text that is hashed.
func Form(segment int, l []api.Entry) (string, api.Errno) {
	if !isSegment(segment) {
		return "", api.ErrArg
	}
	if !isList(l) {
		return "", api.ErrEntry
	}
	return form(segment, l), api.OK
}

// form is the form of a segment with a list.
func form(segment int, l []api.Entry) string {
	w := wire.NewWriter()
	w.Byte(formMark)
	putNumber(w, segment)
	w.Uint(uint64(len(l)))
	for _, e := range l {
		w.Text(e.Key)
		w.Text(e.Sum)
	}
	return w.Told()
}

// Sum is a segment's sum.
func Sum(segment int, l []api.Entry, width int) (string, api.Errno) {
	if !isSegment(segment) || !isWidth(width) {
		return "", api.ErrArg
	}
	if !Valid(l, width) {
		return "", api.ErrEntry
	}
	if len(l) == 0 { // the empty sum stands there, which no hashing gives
		return "", api.OK
	}
	return digest.Cut(form(segment, l), width)
}
