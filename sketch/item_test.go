package sketch_test

import (
	"math/rand"
	"testing"

	"concord/segment"
	"concord/sketch"
)

// P16.1: entries at their edges, such that may be in no list, too.
func TestItem(t *testing.T) {
	for _, e := range entries() {
		if x := sketch.Item(e); x != wantItem(e) {
			t.Errorf("Item of %.40q (%d bytes), %.40q (%d): %x, want %x", e.Key, len(e.Key), e.Sum, len(e.Sum), x, wantItem(e))
		}
	}
}

// P16.1: drawn entries; where the key is one, the item's segment is the key's.
func TestDrawnItems(t *testing.T) {
	r := rand.New(rand.NewSource(161))
	for range 5000 {
		key, text := make([]byte, 1+r.Intn(32)), make([]byte, r.Intn(40))
		r.Read(key)
		r.Read(text)
		e := entry{Key: string(key), Sum: string(text)}
		x := sketch.Item(e)
		if x != wantItem(e) || sketch.Segment(x) != segment.Of(e.Key) {
			t.Fatalf("Item(%q): %x, want %x", e, x, wantItem(e))
		}
	}
}

// P16.1: where the key ends and the sum begins is in the item; the segment hangs on the key alone.
func TestItemsOfUnlikeEntries(t *testing.T) {
	unlike := []entry{{Key: "ab", Sum: "c"}, {Key: "a", Sum: "bc"}, {Key: "abc"}, {Sum: "abc"}, {Key: "a", Sum: "\x02bc"}, {Key: "a\x02b", Sum: "c"}, {Key: "c", Sum: "ab"}, {Key: "ab", Sum: "d"}, {Key: "ab", Sum: "c\x00"}, {Key: "ab"}, {}}
	lowest := map[uint64]entry{}
	for _, e := range unlike {
		x := sketch.Item(e)
		if other, is := lowest[x%(1<<48)]; is {
			t.Errorf("%q and %q have one item", e, other)
		}
		lowest[x%(1<<48)] = e
		if uint64(sketch.Segment(x)) != wantSegment(e.Key) {
			t.Errorf("%q: the segment %d", e, sketch.Segment(x))
		}
	}
}

// P16.1: of every number that 16 bits can tell, whatever stands beneath it.
func TestSegment(t *testing.T) {
	for n := range 1 << 16 {
		for _, beneath := range []uint64{0, 1, 1<<47 + 5, 1<<48 - 1} {
			if got := sketch.Segment(uint64(n)*(1<<48) + beneath); got != n {
				t.Fatalf("Segment(%d, %x): %d", n, beneath, got)
			}
		}
	}
}
