package btree_test

import (
	"slices"
	"testing"

	"concord/api"
	"concord/btree"
	"concord/store"
)

// three is a sound table of three levels: a 1, b 2 | f 3 || m 4 | t 5, z 6.
func three() *shelf {
	return shelved(
		branch(2, "m", 3),
		branch(4, "f", 5), branch(6, "p", 7),
		leaf("a", "1", "b", "2"), leaf("f", "3"), leaf("m", "4"), leaf("t", "5", "z", "6"),
	)
}

// P9.1: Look reads nothing, whatever it is handed.
func TestLookReadsNothing(t *testing.T) {
	for _, root := range []uint32{0, 1, 9, 1<<32 - 1} {
		s := three()
		if v := btree.Look(s, root); v == nil || len(s.asked) != 0 {
			t.Errorf("Look at %d: %v, it reads %v", root, v, s.asked)
		}
	}
}

// P9.1, R1: without pages, and of a nil view, each call answers ErrNil, of the root 0 too; Seek tells nothing.
func TestNilViews(t *testing.T) {
	var none *btree.View
	for what, v := range map[string]*btree.View{
		"no view": none, "a view made by hand": new(btree.View),
		"no pages, root 0": btree.Look(nil, 0), "no pages, root 1": btree.Look(nil, 1),
	} {
		for _, key := range []string{"", "a"} {
			wantGet(t, what, v, key, "", false, api.ErrNil)
			wantKeys(t, what, v, key, "")
		}
		wantCount(t, what, v, 0, api.ErrNil)
		wantCheck(t, what, v, api.ErrNil)
	}
	for what, p := range map[string]btree.Pages{"a nil store": (*store.Store)(nil), "a nil batch": (*store.Batch)(nil)} {
		v := btree.Look(p, 1)
		wantGet(t, what, v, "a", "", false, api.ErrNil)
		wantCount(t, what, v, 0, api.ErrNil)
		wantCheck(t, what, v, api.ErrNil)
		wantKeys(t, what, v, "", "")
	}
}

// P9.2 to P9.4: the root 0 is the table without cells, and nothing is read for it.
func TestRootNought(t *testing.T) {
	s := three()
	v := btree.Look(s, 0)
	for _, key := range []string{"", "a", x(99)} {
		wantGet(t, "the root 0", v, key, "", false, api.OK)
		wantKeys(t, "the root 0", v, key, "")
	}
	wantCount(t, "the root 0", v, 0, api.OK)
	wantCheck(t, "the root 0", v, api.OK)
	if len(s.asked) != 0 {
		t.Errorf("it reads %v", s.asked)
	}
}

// P9.2: Get goes down one way.
func TestGet(t *testing.T) {
	s := three()
	v := btree.Look(s, 1)
	for i, key := range []string{"a", "b", "f", "m", "t", "z"} {
		wantGet(t, "three levels", v, key, string(rune('1'+i)), true, api.OK)
	}
	for _, key := range []string{"", "A", "a\x00", "e", "ff", "l", "n", "p", "y", "zz", x(400)} {
		wantGet(t, "three levels", v, key, "", false, api.OK)
	}
	for key, want := range map[string][]uint32{"": {1, 2, 4}, "f": {1, 2, 5}, "lz": {1, 2, 5}, "m": {1, 3, 6}, "p": {1, 3, 7}} {
		s.asked = nil
		if v.Get(key); !slices.Equal(s.asked, want) {
			t.Errorf("Get(%q) reads %v, want %v", key, s.asked, want)
		}
	}
	one := btree.Look(s, 7)
	wantGet(t, "a leaf alone", one, "t", "5", true, api.OK)
	wantGet(t, "a leaf alone", one, "u", "", false, api.OK)
	wantGet(t, "a value without bytes", btree.Look(shelved(leaf("a", "")), 1), "a", "", true, api.OK)
}

// P9.3: Seek tells the cells from a text on.
func TestSeek(t *testing.T) {
	s := three()
	v := btree.Look(s, 1)
	for from, want := range map[string]string{
		"": "a b f m t z", "a": "a b f m t z", "a\x00": "b f m t z", "c": "f m t z", "f": "f m t z", "g": "m t z",
		"m": "m t z", "n": "t z", "p": "t z", "u": "z", "z": "z", "z\x00": "", x(400): "z",
	} {
		wantKeys(t, "three levels", v, from, want)
	}
	for from, want := range map[string][]uint32{"": {1, 2, 4, 5, 3, 6, 7}, "f": {1, 2, 5, 3, 6, 7}, "p": {1, 3, 7}} {
		s.asked = nil
		if v.Seek(from); !slices.Equal(s.asked, want) {
			t.Errorf("Seek(%q) reads %v, want %v", from, s.asked, want)
		}
	}
	if got := cells(v, "f"); !slices.Equal(got, leaf("f", "3", "m", "4", "t", "5", "z", "6").Cells) {
		t.Errorf("the cells from f on: %v", got)
	}
}

// P9.3, R8: Seek tells what was there when it was called, in each round of several at once, and may be left anywhere.
func TestSeekRounds(t *testing.T) {
	s := three()
	seq := btree.Look(s, 1).Seek("b")
	s.asked = nil
	clear(s.pages)
	want := []string{"b", "f", "m", "t", "z"}
	for leave := 1; leave <= len(want); leave++ {
		var outer []string
		for key := range seq {
			var inner []string
			for key, value := range seq {
				if value == "" {
					t.Errorf("%s has no value", key)
				}
				inner = append(inner, key)
			}
			if !slices.Equal(inner, want) {
				t.Errorf("within another round: %v", inner)
			}
			if outer = append(outer, key); len(outer) == leave {
				break
			}
		}
		if !slices.Equal(outer, want[:leave]) {
			t.Errorf("left behind %d: %v", leave, outer)
		}
	}
	if len(s.asked) != 0 {
		t.Errorf("a round reads %v", s.asked)
	}
}

// P9.3: cells ahead of a break are told, those behind it are not.
func TestSeekAheadOfBreak(t *testing.T) {
	for what, c := range map[string]struct {
		page uint32
		p    api.Page
		want string
	}{
		"no node":        {6, api.Page{Kind: 78, Body: "\x03"}, "a b f"},
		"another kind":   {6, api.Page{Kind: 77, Body: paged(leaf("m", "4")).Body}, "a b f"},
		"no cells":       {5, paged(leaf()), "a b"},
		"no keys":        {3, paged(branch(6)), "a b f"},
		"twice":          {3, paged(branch(6, "p", 4)), "a b f m"},
		"itself":         {3, paged(branch(3, "p", 7)), "a b f"},
		"a key again":    {6, paged(leaf("f", "4")), "a b f"},
		"a key below":    {6, paged(leaf("e", "4", "n", "4")), "a b f"},
		"its first cell": {4, paged(leaf("a", "1", "z", "2")), "a z"},
	} {
		s := three()
		s.pages[c.page] = c.p
		v := btree.Look(s, 1)
		wantKeys(t, what, v, "", c.want)
		wantCount(t, what, v, 0, api.ErrBroken)
		wantCheck(t, what, v, api.ErrBroken)
	}
	s := three()
	s.refused[6] = api.ErrPower
	v := btree.Look(s, 1)
	wantKeys(t, "a page that is refused", v, "", "a b f")
	wantKeys(t, "a page that is refused", v, "p", "t z")
	wantCount(t, "a page that is refused", v, 0, api.ErrPower)
	wantCheck(t, "a page that is refused", v, api.ErrPower)
	wantGet(t, "a page that is refused", v, "m", "", false, api.ErrPower)
	wantGet(t, "a page that is refused", v, "t", "5", true, api.OK)
}

// P9.2: Get breaks at what it reads, and at nothing else.
func TestGetBreaks(t *testing.T) {
	for what, p := range map[string]api.Page{
		"no node": {Kind: 78}, "half a node": {Kind: 78, Body: paged(leaf("f", "3")).Body[:4]},
		"too long": {Kind: 78, Body: x(997)}, "another kind": {Kind: 79, Body: paged(leaf("f", "3")).Body},
		"no cells": paged(leaf()), "no keys": paged(branch(4)),
	} {
		s := three()
		s.pages[5] = p
		v := btree.Look(s, 1)
		wantGet(t, what, v, "f", "", false, api.ErrBroken)
		wantGet(t, what, v, "g", "", false, api.ErrBroken)
		wantGet(t, what, v, "b", "2", true, api.OK)
		if what != "no cells" {
			wantGet(t, what+", at the root", btree.Look(s, 5), "f", "", false, api.ErrBroken)
			wantCheck(t, what+", at the root", btree.Look(s, 5), api.ErrBroken)
		}
	}
	s := three()
	delete(s.pages, 5)
	wantGet(t, "a page that is not there", btree.Look(s, 1), "f", "", false, api.ErrFree)
	wantGet(t, "a root that is not there", btree.Look(s, 9), "f", "", false, api.ErrFree)
}

// A root without cells is a table without any.
func TestEmptyRoot(t *testing.T) {
	v := btree.Look(shelved(leaf()), 1)
	wantGet(t, "a leaf without cells", v, "a", "", false, api.OK)
	wantCount(t, "a leaf without cells", v, 0, api.OK)
	wantCheck(t, "a leaf without cells", v, api.OK)
	wantKeys(t, "a leaf without cells", v, "", "")
}

// chain is a table of so many levels: each branch has the next one as a kid, and a leaf b, c, .. behind the key of that name.
func chain(levels int) *shelf {
	s := shelved()
	for i := 1; i < levels; i++ {
		key := string(rune('a' + levels - i))
		s.pages[uint32(i)] = paged(branch(i+1, key, 100+i))
		s.pages[uint32(100+i)] = paged(leaf(key, "x"))
	}
	s.pages[uint32(levels)] = paged(leaf("a", "1"))
	return s
}

// Eight levels are read, and not one more: but what Read answers of a page goes ahead of its level.
func TestLevels(t *testing.T) {
	for levels := 1; levels <= 8; levels++ {
		v := btree.Look(chain(levels), 1)
		wantGet(t, "a chain", v, "a", "1", true, api.OK)
		wantCount(t, "a chain", v, levels, api.OK)
		wantKeys(t, "a chain", v, "", "a b c d e f g h"[:2*levels-1])
	}
	for levels := 9; levels <= 12; levels++ {
		s := chain(levels)
		v := btree.Look(s, 1)
		wantGet(t, "too deep", v, "a", "", false, api.ErrBroken)
		wantCount(t, "too deep", v, 0, api.ErrBroken)
		wantCheck(t, "too deep", v, api.ErrBroken)
		wantKeys(t, "too deep", v, "", "")
		s.asked = nil
		if v.Get("a"); !slices.Equal(s.asked, []uint32{1, 2, 3, 4, 5, 6, 7, 8, 9}) {
			t.Errorf("%d levels: Get reads %v", levels, s.asked)
		}
		s.refused[9] = api.ErrPower
		wantGet(t, "too deep, and refused", v, "a", "", false, api.ErrPower)
		wantCount(t, "too deep, and refused", v, 0, api.ErrPower)
		wantCheck(t, "too deep, and refused", v, api.ErrPower)
	}
}

// P9.4: Check tells what is not sound, where going through does not break.
func TestUnsound(t *testing.T) {
	for what, change := range map[string]map[uint32]api.Node{
		"below the key ahead":               {3: branch(6, "u", 7), 6: leaf("m", "4", "p", "4")},
		"the key behind":                    {4: leaf("a", "1", "b", "2", "f", "3"), 5: leaf("g", "3")},
		"above the key behind":              {5: leaf("f", "3", "n", "3"), 6: leaf("o", "4")},
		"below a key ahead, further up":     {6: leaf("l", "4")},
		"the key behind, further up":        {5: leaf("f", "3", "m", "3"), 6: leaf("n", "4")},
		"above a key behind, further up":    {5: leaf("f", "3", "mm", "3"), 6: leaf("n", "4")},
		"a branch's key below the bounds":   {3: branch(6, "b", 7), 6: leaf("m", "4")},
		"a branch's key beyond the bounds":  {2: branch(4, "q", 5)},
		"a branch's key is the bound":       {3: branch(6, "m", 7)},
		"a leaf on another level":           {3: leaf("m", "4")},
		"a leaf on another level, in front": {2: leaf("a", "4"), 5: leaf("f", "3")},
	} {
		s := three()
		for page, n := range change {
			s.pages[page] = paged(n)
		}
		v := btree.Look(s, 1)
		if count, e := v.Count(); count == 0 || e != api.OK {
			t.Errorf("%s: Count is %d, %v", what, count, e)
		}
		wantCheck(t, what, v, api.ErrBroken)
		s.refused[7] = api.ErrPower
		if g := throughOf(s, 1, ""); g.broke != api.OK {
			wantCheck(t, what+", and a break behind it", v, api.ErrPower)
		}
	}
	wantCheck(t, "sound", btree.Look(three(), 1), api.OK)
	s := three()
	s.pages[4] = paged(leaf("\x00", "1"))
	s.pages[7] = paged(leaf("p", "5", "\xff"+x(300), "6"))
	wantCheck(t, "sound, at the edges", btree.Look(s, 1), api.OK)
}
