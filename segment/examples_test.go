package segment_test

import (
	"slices"
	"strconv"
	"strings"
	"testing"

	"concord/api"
	"concord/segment"
)

// P14.1: the chapter's first example.
func TestExampleOf(t *testing.T) {
	for key, want := range map[string]int{"a": 2005, "b": 2637, "": -1, strings.Repeat("k", 33): -1} {
		if n := segment.Of(key); n != want {
			t.Errorf("Of(%q): %d", key, n)
		}
	}
	if p, e := segment.Prefix(2005); p != "\x07\xd5" || e != api.OK {
		t.Errorf("Prefix(2005): % x, %v", p, e)
	}
	for _, n := range []int{4096, -1} {
		if p, e := segment.Prefix(n); p != "" || e != api.ErrArg {
			t.Errorf("Prefix(%d): % x, %v", n, p, e)
		}
	}
}

// P14.2: the second.
func TestExampleValid(t *testing.T) {
	for _, c := range []struct {
		l     string
		width int
		want  bool
	}{{"a:x b:y", 1, true}, {"a:x b:y", 2, false}, {"b:y a:x", 1, false}, {"a:x a:x", 1, false}, {"", 0, false}, {"", 5, true}} {
		if segment.Valid(list(c.l), c.width) != c.want {
			t.Errorf("Valid(%s, %d) is not %v", c.l, c.width, c.want)
		}
	}
	if !segment.Home(2005, list("a:x")) || segment.Home(2005, list("a:x b:y")) || !segment.Home(-1, nil) {
		t.Error("Home")
	}
}

// P14.3: the third.
func TestExampleForm(t *testing.T) {
	if f, e := segment.Form(5, list("a:x")); f != "\x53\x00\x05\x01\x01\x61\x01\x78" || e != api.OK {
		t.Errorf("Form: % x, %v", f, e)
	}
	if s, e := segment.Sum(5, nil, 4); s != "" || e != api.OK {
		t.Errorf("Sum of none: % x, %v", s, e)
	}
	for width, want := range map[int]api.Errno{33: api.ErrArg, 2: api.ErrEntry} {
		if s, e := segment.Sum(5, list("a:x"), width); s != "" || e != want {
			t.Errorf("Sum with %d: % x, %v", width, s, e)
		}
	}
	if f, e := segment.Form(4096, list("b:y a:x")); f != "" || e != api.ErrArg {
		t.Errorf("Form of 4096: % x, %v", f, e)
	}
}

// P14.4: the fourth.
func TestExampleDiff(t *testing.T) {
	d, e := segment.Diff(list("a:x b:y c:z"), list("b:w c:z d:v"))
	if !slices.Equal(d, []api.Diff{{Key: "a", Left: "x"}, {Key: "b", Left: "y", Right: "w"}, {Key: "d", Right: "v"}}) || e != api.OK {
		t.Errorf("Diff: %v, %v", d, e)
	}
}

// P14.5: the fifth.
func TestExamplePut(t *testing.T) {
	for _, c := range []struct {
		l, x, want string
		e          api.Errno
	}{{"a:x c:z", "b:y", "a:x b:y c:z", 0}, {"a:x", "a:w", "a:w", 0}, {"a:x", "b:yy", "", api.ErrEntry}, {"", "b:yy", "b:yy", 0}} {
		if l, e := segment.Put(list(c.l), list(c.x)[0]); !slices.Equal(l, list(c.want)) || e != c.e {
			t.Errorf("Put(%s, %s): %v, %v", c.l, c.x, l, e)
		}
	}
	if l, ok := segment.Take(list("a:x c:z"), "a"); !slices.Equal(l, list("c:z")) || !ok {
		t.Errorf("Take: %v, %v", l, ok)
	}
	if l, ok := segment.Take(list("a:x"), "b"); len(l) != 0 || ok {
		t.Errorf("Take of none: %v, %v", l, ok)
	}
}

// P14.6: the sixth.
func TestExamplePiece(t *testing.T) {
	l := many(65, 1)
	for _, c := range []struct {
		from string
		want []api.Entry
		more bool
	}{{"", l[:64], true}, {l[64].Key, l[64:], false}, {"z", nil, false}} {
		if p, more := segment.Piece(l, c.from); !slices.Equal(p, c.want) || more != c.more {
			t.Errorf("Piece from %q: %v, %v", c.from, p, more)
		}
	}
}

// P14.7: the seventh.
func TestExampleMerge(t *testing.T) {
	var got []string
	tell := func(n *int) string {
		if n == nil {
			return "nil"
		}
		return strconv.Itoa(*n)
	}
	segment.Merge([]int{1, 3}, []int{2, 3}, strconv.Itoa, strconv.Itoa, func(key string, x, y *int) {
		got = append(got, key+": "+tell(x)+" "+tell(y))
	})
	if !slices.Equal(got, []string{"1: 1 nil", "2: nil 2", "3: 3 3"}) {
		t.Errorf("Merge: %q", got)
	}
}
