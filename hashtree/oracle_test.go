package hashtree_test

import (
	"crypto/sha256"
	"maps"
	"slices"
	"strings"

	"concord/api"
	"concord/dvv"
)

// The oracle tells what the chapter asks for, by other means than the package: the library's SHA-256, and rows of nodes that are made from the last one upward.

// segmentOf are the first three hexadecimal digits of a key's hash.
func segmentOf(key string) int {
	sum := sha256.Sum256([]byte("K" + key))
	return int(sum[0])*16 + int(sum[1]/16)
}

func two(n int) string { return string([]byte{byte(n / 256), byte(n % 256)}) }

// number is a number to the base 128, the lowest digit first.
func number(n int) string {
	if n < 128 {
		return string([]byte{byte(n)})
	}
	return string([]byte{byte(n%128 + 128)}) + number(n/128)
}

func text(s string) string { return number(len(s)) + s }

func hashed(form string, width int) string {
	sum := sha256.Sum256([]byte(form))
	return string(sum[:width])
}

// objects are keys with states that are not absent.
type objects map[string]api.State

// entry is a key with the sum of its object.
func (o objects) entry(key string, width int) api.Entry {
	bytes, e := dvv.Encode(o[key])
	if e != api.OK {
		panic(e)
	}
	return api.Entry{Key: key, Sum: hashed("O"+text(key)+bytes, width)}
}

// entries are those of a segment, rising by key.
func (o objects) entries(segment, width int) []api.Entry {
	var l []api.Entry
	for _, key := range slices.Sorted(maps.Keys(o)) {
		if segmentOf(key) == segment {
			l = append(l, o.entry(key, width))
		}
	}
	return l
}

// all are the entries of all segments, rising by key.
func (o objects) all(width int) []api.Entry {
	var l []api.Entry
	for _, key := range slices.Sorted(maps.Keys(o)) {
		l = append(l, o.entry(key, width))
	}
	return l
}

// segmentSum is the sum of a segment's entries.
func segmentSum(segment int, l []api.Entry, width int) string {
	if len(l) == 0 {
		return ""
	}
	form := "S" + two(segment) + number(len(l))
	for _, e := range l {
		form += text(e.Key) + text(e.Sum)
	}
	return hashed(form, width)
}

// sums are the sums that are not empty, of the tree of the objects, by the keys of their cells.
func (o objects) sums(width int) map[string]string {
	lists := map[int][]api.Entry{}
	for _, e := range o.all(width) {
		lists[segmentOf(e.Key)] = append(lists[segmentOf(e.Key)], e)
	}
	row := map[int]string{}
	for n, l := range lists {
		row[n] = segmentSum(n, l, width)
	}
	out := map[string]string{}
	for level := 3; ; level-- {
		above := map[int]string{}
		for _, place := range slices.Sorted(maps.Keys(row)) {
			out[sumKey(level, place)] = row[place]
			above[place/16] += string([]byte{byte(place % 16)}) + text(row[place])
		}
		if level == 0 {
			return out
		}
		row = map[int]string{}
		for place, kids := range above {
			row[place] = hashed("N"+string([]byte{byte(level - 1)})+two(place)+kids, width)
		}
	}
}

// sumKey is the key of a node's cell.
func sumKey(level, place int) string { return string([]byte{byte(level)}) + two(place) }

// keyOf is the key of the cell of a node that is told by its number.
func keyOf(node int) string {
	first := []int{0, 1, 17, 273}
	level := 3
	for node < first[level] {
		level--
	}
	return sumKey(level, node-first[level])
}

// copied are the same objects, which may be changed alone.
func (o objects) copied() objects { return maps.Clone(o) }

// told is what the objects are, for a fault that is to be read.
func (o objects) told() string { return strings.Join(slices.Sorted(maps.Keys(o)), " ") }
