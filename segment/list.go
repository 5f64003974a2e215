package segment

import (
	"slices"
	"sort"

	"concord/api"
)

// Diff is where two lists of entries differ.
func Diff(a, b []api.Entry) ([]api.Diff, api.Errno) {
	if !isList(a) || !isList(b) {
		return nil, api.ErrEntry
	}
	var out []api.Diff
	Merge(a, b, keyOf, keyOf, func(key string, x, y *api.Entry) {
		d := api.Diff{Key: key, Left: sumOf(x), Right: sumOf(y)}
		if d.Left != d.Right {
			out = append(out, d)
		}
	})
	return out, api.OK
}

// Put is the list with an entry.
func Put(l []api.Entry, e api.Entry) ([]api.Entry, api.Errno) {
	one := []api.Entry{e}
	if width := len(e.Sum); !Valid(l, width) || !Valid(one, width) {
		return nil, api.ErrEntry
	}
	var out []api.Entry
	Merge(l, one, keyOf, keyOf, func(_ string, old, put *api.Entry) {
		if put == nil {
			put = old
		}
		out = append(out, *put)
	})
	return out, api.OK
}

// Take is the list without a key.
func Take(l []api.Entry, key string) ([]api.Entry, bool) {
	if !isList(l) {
		return nil, false
	}
	var out []api.Entry
	Merge(l, []string{key}, keyOf, itself, func(_ string, old *api.Entry, taken *string) {
		if taken == nil {
			out = append(out, *old)
		}
	})
	if len(out) == len(l) {
		return nil, false
	}
	return out, true
}

// Piece is the next entries from a key on, and whether there are more.
func Piece(l []api.Entry, from string) ([]api.Entry, bool) {
	if !isList(l) {
		return nil, false
	}
	rest := l[sort.Search(len(l), func(i int) bool { return l[i].Key >= from }):]
	n := min(len(rest), api.MaxPiece)
	return slices.Clone(rest[:n]), n < len(rest)
}

func keyOf(e api.Entry) string { return e.Key }

func itself(key string) string { return key }

// sumOf is the empty text where a list has not the key: no entry of a list has an empty sum.
func sumOf(e *api.Entry) string {
	if e == nil {
		return ""
	}
	return e.Sum
}
