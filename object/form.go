package object

import (
	"concord/api"
	"concord/digest"
	"concord/wire"
)

// formMark is the first byte of an object's form, by which it is unlike a segment's or a node's.
const formMark = 0x4f

// Form is what is hashed of an object.
func Form(o api.Object) (string, api.Errno) {
	return ifMayBe(o, func(bytes string) (string, api.Errno) {
		return form(o, bytes), api.OK
	})
}

// form is the form of an object that may be and has these bytes as its state's.
func form(o api.Object, bytes string) string {
	if absent(o) {
		return ""
	}
	w := wire.NewWriter()
	w.Byte(formMark)
	w.Text(o.Key)
	w.Raw(bytes)
	return w.Told()
}

// Sum is the sum of an object's form.
func Sum(o api.Object, width int) (string, api.Errno) {
	return ifMayBe(o, func(bytes string) (string, api.Errno) {
		sum, e := digest.Cut(form(o, bytes), width)
		if absent(o) { // the empty sum stands there, which no hashing gives; a wrong width is told all the same
			return "", e
		}
		return sum, e
	})
}

// Entry is an object's key with its sum.
func Entry(o api.Object, width int) (api.Entry, api.Errno) {
	sum, e := Sum(o, width)
	if e != api.OK {
		return api.Entry{}, e
	}
	if absent(o) {
		return api.Entry{}, api.ErrState
	}
	return api.Entry{Key: o.Key, Sum: sum}, api.OK
}
