package segment_test

import (
	"fmt"
	"math/rand"
	"slices"
	"strings"
	"testing"

	"concord/api"
	"concord/segment"
)

// wantPieceAs holds Piece against the oracle.
func wantPieceAs(t *testing.T, l []api.Entry, from string) {
	t.Helper()
	want, wantMore := wantPiece(l, from)
	if p, more := segment.Piece(l, from); !slices.Equal(p, want) || more != wantMore {
		t.Errorf("Piece of %d entries from %q is %v, %v, want %v, %v", len(l), from, p, more, want, wantMore)
	}
}

// P14.6: lists of every length about the bounds, from each key on, from just below and just above it.
func TestPiece(t *testing.T) {
	for _, n := range []int{0, 1, 2, 62, 63, 64, 65, 66, 127, 128, 129, 130, 200} {
		l := many(n, 1)
		wantPieceAs(t, l, "")
		for _, x := range l {
			for _, from := range []string{x.Key, x.Key[:3], x.Key + "\x00", x.Key + strings.Repeat("\xff", 60)} {
				wantPieceAs(t, l, from)
			}
		}
	}
}

// P14.6: just 64 are a whole piece and leave none; of 65 one is left.
func TestPieceAboutTheBound(t *testing.T) {
	for n := range 140 {
		l := many(n, 1)
		for skip := 0; skip < n; skip++ {
			p, more := segment.Piece(l, l[skip].Key)
			if len(p) != min(n-skip, 64) || more != (n-skip > 64) || p[0] != l[skip] {
				t.Errorf("Piece of %d entries behind %d: %d, %v", n, skip, len(p), more)
			}
		}
	}
}

// P14.6: from any text on, keys or not, on lists at their edges.
func TestPieceFromAnyText(t *testing.T) {
	for _, l := range lists() {
		for _, from := range append(keys(), noKeys()...) {
			wantPieceAs(t, l, from)
			wantPieceAs(t, l, from+"\x00")
		}
	}
}

// P14.6: of what is no list nothing, however much would stand behind the text.
func TestPieceOfNoList(t *testing.T) {
	for i, l := range noLists() {
		for _, from := range []string{"", "a", "b", "0003", "\xff\xff", strings.Repeat("k", 40)} {
			if p, more := segment.Piece(l, from); len(p) != 0 || more {
				t.Errorf("Piece of the %d. from %q: %d, %v", i, from, len(p), more)
			}
		}
	}
}

// P14.6: drawn entries, of which not all are lists.
func TestDrawnPieces(t *testing.T) {
	r := rand.New(rand.NewSource(146))
	met := map[bool]int{}
	for range 5000 {
		l, from := drawn(r, 1+r.Intn(32), 40), drawnKey(r)
		if r.Intn(2) == 0 {
			l = slices.DeleteFunc(many(r.Intn(200), 1), func(api.Entry) bool { return r.Intn(6) == 0 })
			from = fmt.Sprintf("%04x", r.Intn(220))
		}
		_, more := wantPiece(l, from)
		met[more]++
		wantPieceAs(t, l, from)
		wantPieceAs(t, l, "")
		if t.Failed() {
			t.FailNow()
		}
	}
	if met[true] < 300 || met[false] < 1000 {
		t.Errorf("met %v", met)
	}
}

// R3: a piece is new memory, its spare room too.
func TestPieceAnew(t *testing.T) {
	for _, n := range []int{0, 1, 3, 64, 65, 200} {
		l := roomy(many(n, 1))
		was := slices.Clone(whole(l))
		for _, from := range []string{"", "0001", "0080", "z"} {
			first, _ := segment.Piece(l, from)
			second, _ := segment.Piece(l, from)
			want := slices.Clone(second)
			scribble(first)
			if !slices.Equal(whole(l), was) || !slices.Equal(second, want) {
				t.Errorf("a piece of %d entries from %q is not new memory", n, from)
			}
			wantPieceAs(t, l, from)
		}
	}
}
