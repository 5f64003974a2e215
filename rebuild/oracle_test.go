package rebuild_test

import (
	"crypto/sha256"
	"maps"
	"slices"

	"concord/api"
)

// The oracle tells what the chapter asks for, by other means than the package: the library's SHA-256, and rows of nodes that are made from the last one upward.

// segmentOf are the first three hexadecimal digits of a key's hash.
func segmentOf(key string) int {
	sum := sha256.Sum256([]byte("K" + key))
	return int(sum[0])*16 + int(sum[1]/16)
}

func two(n int) string { return string([]byte{byte(n / 256), byte(n % 256)}) }

// number is a number to the base 128, the lowest digit first.
func number(n int) string {
	if n < 128 {
		return string([]byte{byte(n)})
	}
	return string([]byte{byte(n%128 + 128)}) + number(n/128)
}

func text(s string) string { return number(len(s)) + s }

func hashed(form string, width int) string {
	sum := sha256.Sum256([]byte(form))
	return string(sum[:width])
}

// segmentSums are the sums of all segments of entries that rise by key.
func segmentSums(l []api.Entry, width int) []string {
	forms, counts := make([]string, 4096), make([]int, 4096)
	for _, e := range l {
		n := segmentOf(e.Key)
		forms[n] += text(e.Key) + text(e.Sum)
		counts[n]++
	}
	out := make([]string, 4096)
	for n := range out {
		if counts[n] > 0 {
			out[n] = hashed("S"+two(n)+number(counts[n])+forms[n], width)
		}
	}
	return out
}

// sums are the sums that are not empty, of the tree of entries, by the keys of their cells.
func sums(l []api.Entry, width int) map[string]string {
	row := map[int]string{}
	for n, sum := range segmentSums(l, width) {
		if sum != "" {
			row[n] = sum
		}
	}
	out := map[string]string{}
	for level := 3; ; level-- {
		above := map[int]string{}
		for _, place := range slices.Sorted(maps.Keys(row)) {
			out[sumKey(level, place)] = row[place]
			above[place/16] += string([]byte{byte(place % 16)}) + text(row[place])
		}
		if level == 0 {
			return out
		}
		row = map[int]string{}
		for place, kids := range above {
			row[place] = hashed("N"+string([]byte{byte(level - 1)})+two(place)+kids, width)
		}
	}
}

// sumKey is the key of a node's cell.
func sumKey(level, place int) string { return string([]byte{byte(level)}) + two(place) }

// keyOf is the key of the cell of a node that is told by its number.
func keyOf(node int) string {
	first := []int{0, 1, 17, 273}
	level := 3
	for node < first[level] {
		level--
	}
	return sumKey(level, node-first[level])
}
