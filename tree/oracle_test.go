package tree_test

import (
	"crypto/sha256"
	"slices"
	"strings"
	"testing"

	"concord/api"
	"concord/tree"
)

// The oracle tells what the chapter asks for, by other means than the package: the library's SHA-256, and four rows of nodes that are made from the last one upward.

// segmentOf are the first three hexadecimal digits of a key's hash.
func segmentOf(key string) int {
	sum := sha256.Sum256([]byte("K" + key))
	return int(sum[0])*16 + int(sum[1]/16)
}

// number is a number to the base 128, the lowest digit first.
func number(n int) string {
	if n < 128 {
		return string([]byte{byte(n)})
	}
	return string([]byte{byte(n%128 + 128)}) + number(n/128)
}

func two(n int) string { return string([]byte{byte(n / 256), byte(n % 256)}) }

// wanted is what there must be of a tree: the rows of its levels, and its entries by their segments.
type wanted struct {
	width       int
	forms, sums [4][]string
	lists       [4096][]entry
}

// begins are the numbers of the levels' first nodes.
func begins() [4]int { return [4]int{0, 1, 17, 273} }

// lay puts a node behind those of its level; is tells whether it has a form.
func (w *wanted) lay(level int, form string, is bool) {
	sum := ""
	if is {
		hash := sha256.Sum256([]byte(form))
		sum = string(hash[:w.width])
	} else {
		form = ""
	}
	w.forms[level] = append(w.forms[level], form)
	w.sums[level] = append(w.sums[level], sum)
}

func want(width int, l []entry) *wanted {
	w := &wanted{width: width}
	for _, e := range l {
		w.lists[segmentOf(e.Key)] = append(w.lists[segmentOf(e.Key)], e)
	}
	for n, entries := range w.lists {
		var b strings.Builder
		b.WriteString("S" + two(n) + number(len(entries)))
		for _, e := range entries {
			b.WriteString(number(len(e.Key)) + e.Key + number(len(e.Sum)) + e.Sum)
		}
		w.lay(3, b.String(), len(entries) > 0)
	}
	for level := 2; level >= 0; level-- {
		for i := range len(w.sums[level+1]) / 16 {
			form := "N" + string([]byte{byte(level)}) + two(i)
			bare := len(form)
			for k, sum := range w.sums[level+1][16*i : 16*i+16] {
				if sum != "" {
					form += string([]byte{byte(k)}) + number(len(sum)) + sum
				}
			}
			w.lay(level, form, len(form) > bare)
		}
	}
	return w
}

// is holds a tree against what is wanted, by all its calls that tell.
func (w *wanted) is(t *testing.T, u *tree.Tree) {
	t.Helper()
	if u.Width() != w.width || u.Root() != w.sums[0][0] {
		t.Fatalf("Width %d, Root %x; want %d, %x", u.Width(), u.Root(), w.width, w.sums[0][0])
	}
	for level, first := range begins() {
		for i, sum := range w.sums[level] {
			node := uint16(first + i)
			if s, e := u.Sum(node); s != sum || e != api.OK {
				t.Fatalf("Sum(%d): %x, %v, want %x", node, s, e, sum)
			}
			if level == 3 {
				continue
			}
			if s, e := u.Kids(node); !slices.Equal(s, w.sums[level+1][16*i:16*i+16]) || e != api.OK {
				t.Fatalf("Kids(%d): %x, %v", node, s, e)
			}
		}
	}
	w.hasEntries(t, u)
	var forms []string
	for _, row := range w.forms {
		forms = append(forms, slices.DeleteFunc(slices.Clone(row), func(s string) bool { return s == "" })...)
	}
	if got := slices.Collect(u.Forms()); !slices.Equal(got, forms) {
		t.Fatalf("Forms: %.2000q, want %.2000q", got, forms)
	}
}

// placed is an entry with its segment.
type placed struct {
	n int
	e entry
}

// eachOf is what Each tells.
func eachOf(u *tree.Tree) []placed {
	var all []placed
	for n, e := range u.Each() {
		all = append(all, placed{n, e})
	}
	return all
}

func (w *wanted) hasEntries(t *testing.T, u *tree.Tree) {
	t.Helper()
	var all []placed
	for n, entries := range w.lists {
		if l, e := u.List(n); !slices.Equal(l, entries) || e != api.OK {
			t.Fatalf("List(%d): %v, %v, want %v", n, l, e, entries)
		}
		for _, e := range entries {
			all = append(all, placed{n, e})
		}
	}
	if got := eachOf(u); !slices.Equal(got, all) || u.Len() != len(all) {
		t.Fatalf("Len %d, Each tells %d, of which some are others; want %d", u.Len(), len(got), len(all))
	}
}

// like tells whether two trees tell the same, by all that they tell.
func like(t *testing.T, a, b *tree.Tree) bool {
	t.Helper()
	for node := range uint16(4369) {
		if sumAt(t, a, node) != sumAt(t, b, node) {
			return false
		}
	}
	return a.Width() == b.Width() && a.Root() == b.Root() && a.Len() == b.Len() &&
		slices.Equal(eachOf(a), eachOf(b)) && slices.Equal(slices.Collect(a.Forms()), slices.Collect(b.Forms()))
}
