package segment_test

import (
	"bytes"
	"crypto/sha256"
	"slices"
	"strings"

	"concord/api"
)

// The oracle tells what the chapter asks for, by other means than the package: the library's SHA-256, maps that are sorted, a visit that calls itself.

func byKey(a, b api.Entry) int { return strings.Compare(a.Key, b.Key) }

// wantOf are the first three hexadecimal digits of a key's hash.
func wantOf(key string) int {
	if key == "" || len(key) > 32 {
		return -1
	}
	sum := sha256.Sum256([]byte("K" + key))
	return int(sum[0]/16)*256 + int(sum[0]%16)*16 + int(sum[1]/16)
}

func wantValid(l []api.Entry, width int) bool {
	if width < 1 || width > 32 {
		return false
	}
	for i, x := range l {
		if wantOf(x.Key) < 0 || len(x.Sum) != width {
			return false
		}
		if i+1 < len(l) && bytes.Compare([]byte(x.Key), []byte(l[i+1].Key)) != -1 {
			return false
		}
	}
	return true
}

// wantAList tells whether entries are a list of one of the widths.
func wantAList(l []api.Entry) bool {
	for width := 1; width <= 32; width++ {
		if wantValid(l, width) {
			return true
		}
	}
	return false
}

// number is a number to the base 128, the lowest digit first.
func number(n int) string {
	if n < 128 {
		return string([]byte{byte(n)})
	}
	return string([]byte{byte(n%128 + 128)}) + number(n/128)
}

func wantForm(segment int, l []api.Entry) (string, api.Errno) {
	if segment < 0 || segment > 4095 {
		return "", 1
	}
	if !wantAList(l) {
		return "", 140
	}
	var b strings.Builder
	b.WriteString("S" + string([]byte{byte(segment / 256), byte(segment % 256)}) + number(len(l)))
	for _, x := range l {
		b.WriteString(number(len(x.Key)) + x.Key + number(len(x.Sum)) + x.Sum)
	}
	return b.String(), 0
}

func wantSum(segment int, l []api.Entry, width int) (string, api.Errno) {
	switch {
	case segment < 0 || segment > 4095 || width < 1 || width > 32:
		return "", 1
	case !wantValid(l, width):
		return "", 140
	case len(l) == 0:
		return "", 0
	}
	form, _ := wantForm(segment, l)
	sum := sha256.Sum256([]byte(form))
	return string(sum[:width]), 0
}

// sums are a list's sums by its keys; byKeys is the list of such.
func sums(l []api.Entry) map[string]string {
	m := map[string]string{}
	for _, x := range l {
		m[x.Key] = x.Sum
	}
	return m
}

func byKeys(m map[string]string) []api.Entry {
	var l []api.Entry
	for key, sum := range m {
		l = append(l, api.Entry{Key: key, Sum: sum})
	}
	slices.SortFunc(l, byKey)
	return l
}

func wantDiff(a, b []api.Entry) ([]api.Diff, api.Errno) {
	if !wantAList(a) || !wantAList(b) {
		return nil, 140
	}
	lefts, rights := sums(a), sums(b)
	var out []api.Diff
	for _, x := range a {
		if right := rights[x.Key]; right != x.Sum {
			out = append(out, api.Diff{Key: x.Key, Left: x.Sum, Right: right})
		}
	}
	for _, y := range b {
		if _, both := lefts[y.Key]; !both {
			out = append(out, api.Diff{Key: y.Key, Right: y.Sum})
		}
	}
	slices.SortFunc(out, func(x, y api.Diff) int { return strings.Compare(x.Key, y.Key) })
	return out, 0
}

func wantPut(l []api.Entry, e api.Entry) ([]api.Entry, api.Errno) {
	m := sums(l)
	m[e.Key] = e.Sum
	if !wantAList(l) || !wantAList([]api.Entry{e}) || !wantAList(byKeys(m)) {
		return nil, 140
	}
	if len(l) > 0 && len(l[0].Sum) != len(e.Sum) {
		return nil, 140
	}
	return byKeys(m), 0
}

func wantTake(l []api.Entry, key string) ([]api.Entry, bool) {
	m := sums(l)
	if _, is := m[key]; !is || !wantAList(l) {
		return nil, false
	}
	delete(m, key)
	return byKeys(m), true
}

func wantPiece(l []api.Entry, from string) ([]api.Entry, bool) {
	if !wantAList(l) {
		return nil, false
	}
	var out []api.Entry
	for _, x := range l {
		if strings.Compare(x.Key, from) >= 0 {
			out = append(out, x)
		}
	}
	if len(out) > 64 {
		return out[:64], true
	}
	return out, false
}

// call is one of Merge's to each: the key, and what stands in both lists, -1 where there is nil.
type call struct {
	key  string
	x, y int
}

// wantMerge are Merge's calls of two lists of numbers that stand for their keys.
func wantMerge(a, b []int) []call {
	switch {
	case len(a) == 0 && len(b) == 0:
		return nil
	case len(b) == 0 || len(a) > 0 && name(a[0]) < name(b[0]):
		return append([]call{{name(a[0]), a[0], -1}}, wantMerge(a[1:], b)...)
	case len(a) == 0 || name(b[0]) < name(a[0]):
		return append([]call{{name(b[0]), -1, b[0]}}, wantMerge(a, b[1:])...)
	}
	return append([]call{{name(a[0]), a[0], b[0]}}, wantMerge(a[1:], b[1:])...)
}

// name is the key that a number stands for: two numbers each have one, and a key begins the one of the next two.
func name(n int) string { return strings.Repeat("k", n/2) }
