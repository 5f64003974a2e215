package hashtree_test

import (
	"fmt"
	"maps"
	"math/rand"
	"slices"
	"strings"
	"testing"

	"concord/api"
	"concord/btree"
)

// P17.6: Begin of a closed tree commits the mark; of another one it writes nothing, and one that was on is forgotten.
func TestBegin(t *testing.T) {
	w := plain(t)
	w.put("x", "a", keyIn(9))
	w.refresh()
	serial, b := w.s.Serial(), w.s.Begin()
	w.begin()
	if _, e := b.Read(0); e != api.ErrDone || w.s.Serial() != serial+1 {
		t.Errorf("of a closed one: the batch that was on: %v; Serial %d, was %d", e, w.s.Serial(), serial)
	}
	w.holds("begun")
	w.rehash(0, 9, 2005)
	lies, b := w.d.Durable(), w.s.Begin()
	w.begin()
	w.like("Begin of one that is on", lies, b)
	w.holds("begun again")
	w.finish()

	w.put("y", "a")
	lies, b = w.d.Durable(), w.s.Begin()
	w.begin()
	w.like("Begin of one that waits", lies, b)
	w.holds("begun where one waited")
	w.again()
	lies, b = w.d.Durable(), w.s.Begin()
	w.begin()
	w.like("Begin of one that is not valid", lies, b)
	w.holds("begun where it was not valid")
}

// P17.6: a Begin that the store refuses changes nothing.
func TestBeginMeetsTheStore(t *testing.T) {
	w := plain(t)
	w.put("x", "a")
	w.refresh()
	w.d.Fuse(0)
	want(t, "Begin", w.h.Begin(), api.ErrPower)
	w.tells("refused")
	want(t, "Begin of a dead store", w.h.Begin(), api.ErrDone)
	w.tells("refused")
	w.d.Crash(api.Fate{})
	w.again()
	w.holds("opened again")
	if !w.h.Closed() {
		t.Error("it is not closed")
	}
}

// P17.6: Rehash brings the segment's own sum up to date, and no other one; where it is so already, nothing is written.
func TestRehash(t *testing.T) {
	w := plain(t)
	w.put("x", "a", keyIn(9), keyIn(10), keyIn(4095))
	w.refresh()
	w.change(edit{key: keyIn(9), value: "y"}, edit{key: keyIn(10), gone: true}, edit{key: keyIn(11), value: "z"})
	w.begin()
	for _, n := range []int{9, 10, 11} {
		serial := w.s.Serial()
		w.rehash(n)
		if w.s.Serial() != serial+1 {
			t.Errorf("Rehash(%d): %d batches", n, w.s.Serial()-serial)
		}
		w.holds(fmt.Sprint("hashed ", n))
	}
	lies, b := w.d.Durable(), w.s.Begin()
	w.rehash(0, 9, 10, 11, 12, 2005, 4095, 4095)
	w.like("Rehash of what is so already", lies, b)
	w.holds("hashed again")
	w.put("v", keyIn(9))
	if w.h.Dirty() != 4096-6 {
		t.Errorf("Dirty %d", w.h.Dirty())
	}
	w.rehash(9)
	w.holds("touched and hashed")
	w.finish()
	w.holds("finished")
}

// P17.6: what Rehash and Finish refuse, in which order.
func TestRebuildArguments(t *testing.T) {
	w := plain(t)
	w.put("x", "a")
	refused := func(what string) {
		t.Helper()
		for _, n := range noSegments() {
			want(t, what+": Rehash of no segment", w.h.Rehash(n), api.ErrArg)
		}
		if !w.building {
			want(t, what+": Rehash", w.h.Rehash(2005), api.ErrDone)
			want(t, what+": Finish", w.h.Finish(), api.ErrDone)
		}
		w.holds(what)
	}
	refused("valid")
	w.refresh()
	refused("closed")
	w.put("y", "a")
	w.again()
	refused("not valid")
	w.begin()
	refused("made anew")
	w.finish()
	refused("finished")
}

// strangeSums writes cells that the tree has not put there, and takes some of its own out.
func strangeSums(w *world, r *rand.Rand) {
	for _, key := range slices.Sorted(maps.Keys(w.objects.sums(w.width))) {
		switch r.Intn(5) {
		case 0:
			w.strange(sumsRoot, key, "", true)
		case 1:
			w.strange(sumsRoot, key, strings.Repeat("s", r.Intn(40)), false)
		}
	}
	for _, key := range []string{sumKey(0, 1), sumKey(0, 65535), sumKey(1, 16), sumKey(2, 256), sumKey(3, 4096), sumKey(4, 0), sumKey(255, 0),
		sumKey(1, 0), sumKey(2, 99), sumKey(3, 1234), "\x00", "\x00\x00", "\x03\x00", sumKey(0, 0) + "\x00", "zz", strings.Repeat("k", 64)} {
		switch r.Intn(4) {
		case 0:
			w.strange(sumsRoot, key, "", false)
		case 1:
			w.strange(sumsRoot, key, strings.Repeat("s", w.width), false)
		case 2:
			w.strange(sumsRoot, key, strings.Repeat("s", 320-len(key)), false)
		}
	}
}

// P17.6: whatever sums others have written while the rebuild was on, behind Finish there are those of the tree and no others.
func TestFinishOverStrangeSums(t *testing.T) {
	for seed := range int64(40) {
		r := rand.New(rand.NewSource(seed))
		w := fresh(t, 300, []int{24, 9, 60}[seed%3], 1+int(seed)%32)
		for range 6 {
			w.change(w.someEdits(r, 2)...)
		}
		if seed%2 == 0 {
			w.refresh()
		}
		w.begin()
		strangeSums(w, r)
		for n := range 4096 {
			if seed%4 != 3 && n%(1+int(seed)%7) == 0 {
				wantOK(t, "Rehash", w.h.Rehash(n))
				delete(w.waits, n)
			}
		}
		w.tells("hashed")
		if seed%5 == 0 {
			strangeSums(w, r)
		}
		if seed%7 == 0 {
			w.change(w.someEdits(r, 2)...)
		}
		w.finish()
		w.holds("finished")
		w.again()
		w.holds("opened again")
	}
}

// P17.6: where all lies as it must, Finish has but the mark to write.
func TestFinishWritesWhatItMust(t *testing.T) {
	w := many(t, 8)
	w.refresh()
	w.begin()
	serial := w.s.Serial()
	w.finish()
	if w.s.Serial() != serial+1 {
		t.Errorf("%d batches", w.s.Serial()-serial)
	}
	w.holds("finished")
}

// P17.6: a table of sums that breaks: Finish tells it, and so does Rehash where it comes to the break; the rebuild stays on, and the tree is not closed.
func TestFinishOfBrokenSums(t *testing.T) {
	for what, c := range brokenSums() {
		w := plain(t)
		w.put("x", "a", keyIn(9))
		w.begin()
		lay(t, w.s, sumsRoot, c.bodies)
		serial := w.s.Serial()
		want(t, what+": Finish", w.h.Finish(), c.e)
		w.tells(what)
		if w.s.Serial() != serial {
			t.Errorf("%s: something was written", what)
		}
		b := w.s.Begin()
		e := btree.Put(b, sumsRoot, sumKey(3, 2005), "abcd")
		b.Drop()
		want(t, what+": Rehash", w.h.Rehash(2005), e)
		if e == api.OK {
			delete(w.waits, 2005)
		}
		w.tells(what)
		b = w.s.Begin()
		wantOK(t, "SetRoot", b.SetRoot(sumsRoot, 0))
		wantOK(t, "Commit", b.Commit())
		w.finish()
		w.holds(what + ", taken away")
	}
}

// notSound are the pages of a table of sums that goes through without a break and is not sound: cells stand where nobody who looks for their keys comes to.
func notSound(r *rand.Rand) func(first uint32) []string {
	var keys []string
	for _, node := range slices.Sorted(slices.Values(r.Perm(4369)[:40])) {
		keys = append(keys, keyOf(node))
	}
	return func(first uint32) []string {
		all := []string{""}
		row := func(l []string) uint32 {
			var texts []string
			for _, key := range l {
				texts = append(texts, key, strings.Repeat("s", 4))
			}
			all = append(all, leaf(texts...))
			return first + uint32(len(all)-1)
		}
		left, right := row(keys[:10]), row(keys[10:20])
		all = append(all, branch(left, keys[r.Intn(10)], right))
		inner := first + uint32(len(all)-1)
		all[0] = branch(inner, keys[5+r.Intn(30)], row(keys[20:]))
		return all
	}
}

// withThree is a tree over three objects that were never hashed, over a journal that may be small.
func withThree(t *testing.T, seed int64) *world {
	t.Helper()
	w := fresh(t, 300, []int{24, 9, 4}[seed%3], 4)
	b := w.s.Begin()
	wantOK(t, "Touch", w.h.Touch(b, 0))
	wantOK(t, "Commit", b.Commit())
	w.committed(w.objects)
	for i := range 3 {
		w.change(edit{key: keyIn(100*i + int(seed)), value: "x"})
	}
	return w
}

// layNotSound lays such a table under the root of the sums.
func layNotSound(w *world, seed int64) {
	w.t.Helper()
	lay(w.t, w.s, sumsRoot, notSound(rand.New(rand.NewSource(seed))))
	v := btree.Look(w.s, w.s.Root(sumsRoot))
	if n, e := v.Count(); n != 40 || e != api.OK || v.Check() != api.ErrBroken {
		w.t.Fatalf("Count %d, %v, Check %v: the test is wrong", n, e, v.Check())
	}
}

// P17.6: a table of sums that does not break is never in the way, be it sound or not; its pages are given back.
func TestFinishOverSumsThatAreNotSound(t *testing.T) {
	for seed := range int64(30) {
		plainly, w := withThree(t, seed), withThree(t, seed)
		plainly.refresh()
		if seed%2 == 0 {
			w.begin()
			layNotSound(w, seed)
			w.finish()
		} else {
			layNotSound(w, seed)
			w.refresh()
		}
		w.holds("not sound")
		if w.s.Free() != plainly.s.Free() {
			t.Errorf("%d pages are free, want %d", w.s.Free(), plainly.s.Free())
		}
		w.again()
		w.holds("not sound, opened again")
	}
}

// P17.6, P17.7: and so at each end of the power.
func TestPowerOverSumsThatAreNotSound(t *testing.T) {
	for seed := range int64(6) {
		r := rand.New(rand.NewSource(seed))
		for fuse := 0; ; fuse++ {
			w := withThree(t, seed)
			w.begin()
			layNotSound(w, seed)
			w.d.Fuse(fuse)
			e := w.h.Finish()
			if e == api.OK {
				if fuse < 10 {
					t.Errorf("%d acts: the test has lost its weight", fuse)
				}
				break
			}
			want(t, "Finish", e, api.ErrPower)
			w.tells("broken off")
			w.d.Crash(someFate(r, w.d.Pending()))
			w.s, w.h = reopened(t, r, w.d, w.journal, w.width)
			w.afterPower(fmt.Sprintf("seed %d, fuse %d", seed, fuse))
		}
	}
}

// P17.6: the end of the power in a rebuild changes nothing that is told.
func TestRebuildMeetsTheStore(t *testing.T) {
	for _, call := range []string{"Rehash", "Finish"} {
		w := plain(t)
		w.put("x", "a")
		w.begin()
		w.d.Fuse(1)
		if call == "Rehash" {
			want(t, call, w.h.Rehash(2005), api.ErrPower)
		} else {
			want(t, call, w.h.Finish(), api.ErrPower)
		}
		w.tells(call)
		want(t, "Rehash of a dead store", w.h.Rehash(2005), api.ErrDone)
		want(t, "Finish of a dead store", w.h.Finish(), api.ErrDone)
		w.tells(call)
	}
}
