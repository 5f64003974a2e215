package sketch

import (
	"concord/api"
	"concord/digest"
	"concord/wire"
)

const (
	itemMark    = 0x49   // ahead of an entry that is hashed for its item
	segmentMark = "\x4b" // ahead of a key that is hashed for its segment
	segmentAt   = 48     // an item's bits from here up tell the segment, those below are the entry's own
)

// Item is the item of an entry.
func Item(e api.Entry) uint64 {
	w := wire.NewWriter()
	w.Byte(itemMark)
	w.Text(e.Key)
	w.Text(e.Sum)
	item := segmentOf(e.Key)
	item <<= segmentAt
	item |= head(w.Told(), segmentAt/8)
	return item
}

// Segment is the segment of an item.
func Segment(item uint64) int { return int(item >> segmentAt) }

// segmentOf is the segment of any text, for entries have items whether their keys may be or not.
func segmentOf(text string) uint64 { return head(segmentMark+text, 2) >> 4 }

// head are the first n bytes of a text's digest, as a number.
func head(text string, n int) uint64 {
	sum, _ := digest.Cut(text, n)
	return wire.NewReader(sum).Fixed(n)
}

// placesOf are the cells of an item, of so many cells: one in each third, so that they are three.
func placesOf(item uint64, cells int) [places]int {
	third := cells / places
	var at [places]int
	for j := range at {
		at[j] = j*third + int(mix(item, uint64(j))%uint64(third))
	}
	return at
}

// checkOf is the check of an item. It is mixed anew, so that it hangs on none of the item's places.
func checkOf(item uint64) uint32 { return uint32(mix(item, places)) }

// mix is a number that hangs on all bits of x and j.
func mix(x, j uint64) uint64 {
	z := x + (j+1)*0x9e3779b97f4a7c15
	z ^= z >> 30
	z *= 0xbf58476d1ce4e5b9
	z ^= z >> 27
	z *= 0x94d049bb133111eb
	z ^= z >> 31
	return z
}
