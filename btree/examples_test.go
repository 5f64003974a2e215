package btree_test

import (
	"testing"

	"concord/api"
	"concord/btree"
)

// The chapter's examples, row by row: a store of 60 pages, of which 20 are the journal.
func TestExamples(t *testing.T) {
	b := fresh(t, 60).Begin()
	v := btree.Look(b, 0)
	wantGet(t, "the root 0", v, "a", "", false, api.OK)
	wantCount(t, "the root 0", v, 0, api.OK)
	wantCheck(t, "the root 0", v, api.OK)
	wantKeys(t, "the root 0", v, "", "")

	wantPut(t, b, 1, "m", "1", api.OK)
	wantPut(t, b, 1, "c", "2", api.OK)
	wantPut(t, b, 1, "m", "3", api.OK)
	v = table(b, 1)
	wantLike(t, "two cells", v, map[string]string{"c": "2", "m": "3"})
	wantLike(t, "another table", table(b, 0), nil)
	for from, want := range map[string]string{"d": "m", "m": "m", "n": ""} {
		wantKeys(t, "two cells", v, from, want)
	}

	wantDelete(t, b, 1, "c", true, api.OK)
	wantDelete(t, b, 1, "c", false, api.OK)
	wantDelete(t, b, 1, "m", true, api.OK)
	if b.Root(1) != 0 {
		t.Errorf("the root is %d", b.Root(1))
	}

	wantPut(t, b, 1, "", "x", api.ErrArg)
	wantPut(t, b, 1, x(65), "x", api.ErrArg)
	wantPut(t, b, 1, "a", x(320), api.ErrBig)
	wantPut(t, b, 9, "a", "x", api.ErrArg)
	wantPut(t, nil, 1, "a", "x", api.ErrNil)
}

// A branch whose two kids it is itself.
func TestRoundExample(t *testing.T) {
	v := btree.Look(shelved(branch(1, "m", 1)), 1)
	wantGet(t, "round", v, "a", "", false, api.ErrBroken)
	wantCount(t, "round", v, 0, api.ErrBroken)
	wantCheck(t, "round", v, api.ErrBroken)
	wantKeys(t, "round", v, "", "")
}

// A key beneath a kid to which it does not belong.
func TestUnsoundExample(t *testing.T) {
	v := btree.Look(shelved(branch(2, "m", 3), leaf("a", "1", "b", "2"), leaf("c", "3", "z", "4")), 1)
	wantGet(t, "unsound", v, "c", "", false, api.OK)
	wantGet(t, "unsound", v, "z", "4", true, api.OK)
	wantCount(t, "unsound", v, 4, api.OK)
	wantKeys(t, "unsound", v, "", "a b c z")
	wantKeys(t, "unsound", v, "c", "c z")
	wantCheck(t, "unsound", v, api.ErrBroken)
}
