package object

import (
	"concord/api"
	"concord/dvv"
	"concord/wire"
)

// placeBytes is how many bytes of a cell's key tell the segment; they stand ahead of the object's key, so that cells stand by segment.
const placeBytes = 2

// Pack is an object as a cell.
func Pack(o api.Object) (api.Cell, api.Errno) {
	return ifMayBe(o, func(bytes string) (api.Cell, api.Errno) {
		if absent(o) {
			return api.Cell{}, api.ErrState
		}
		w := wire.NewWriter()
		w.Fixed(uint64(place(o.Key)), placeBytes)
		w.Raw(o.Key)
		return api.Cell{Key: w.Told(), Value: bytes}, api.OK
	})
}

// Unpack is the object that a cell is.
func Unpack(c api.Cell) (api.Object, api.Errno) {
	if len(c.Key) < placeBytes {
		return api.Object{}, api.ErrForm
	}
	s, e := dvv.Decode(c.Value)
	if e != api.OK {
		return api.Object{}, api.ErrForm
	}
	o := api.Object{Key: c.Key[placeBytes:], State: s}
	if again, e := Pack(o); e != api.OK || again != c { // told again otherwise: the cell of none
		return api.Object{}, api.ErrForm
	}
	return o, api.OK
}
