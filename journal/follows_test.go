package journal_test

import (
	"fmt"
	"math/rand"
	"slices"
	"strings"
	"testing"

	"concord/api"
	"concord/disk"
	"concord/journal"
)

// ahead is a disk as it lay ahead of a Put, with what Scan told of it.
type ahead struct {
	what  string
	lies  []string
	found journal.Found
}

// aheads are disks of eight pages with journals that are new, of batches of each size, broken off, and of any bytes.
func aheads(t *testing.T) []ahead {
	t.Helper()
	var l []ahead
	add := func(what string, d *disk.Disk) {
		l = append(l, ahead{what, d.Durable(), mustScan(t, d, 2, 4)})
	}
	add("a new disk", blank(t, 8))
	for n := range 4 {
		d := laid(t, ended(1, 3, 3), ended(2, 2, 2), ended(3, 1, 1), ended(4, 0, 0), ended(5, 1<<63, 1<<63))
		mustPut(t, d, 2, 4, 200, many(n))
		add(fmt.Sprint("a batch of ", n), d)
		d.Fuse(n)
		if e := journal.Put(d, 2, 4, 255, []api.Page{{Number: 1, Body: "a"}, {Number: 2, Body: "b"}, {Number: 3, Body: "c"}}); e != api.ErrPower {
			t.Fatalf("a fuse of %d: %v", n, e)
		}
		d.Crash(api.Fate{Keep: []bool{true, true, true}, Torn: n - 1, Cut: 60})
		add(fmt.Sprint("one broken off at ", n), d)
	}
	add("any bytes", laid(t, ended(74, 9, 250), ended(67, 250, 9), ended(67, 250, 250), ended(0, 0, 0)))
	return l
}

// fates are all that may happen to n pending writes, the cuts at some places.
func fates(n int) []api.Fate {
	var l []api.Fate
	for bits := range 1 << n {
		keep := make([]bool, n)
		for i := range keep {
			keep[i] = bits>>i&1 == 1
		}
		l = append(l, api.Fate{Keep: keep, Torn: -1})
		for torn := range n {
			for _, cut := range []int{0, 1, 2, 3, 64, 126, 127, 128} {
				l = append(l, api.Fate{Keep: keep, Torn: torn, Cut: cut})
			}
		}
	}
	return l
}

// wholeOrNot breaks a Put off at a fuse, in every way, and looks at what is there then.
func wholeOrNot(t *testing.T, a ahead, serial uint64, l []api.Page, fuse int) {
	t.Helper()
	writes := min(fuse, len(l)+1)
	if fuse >= len(l)+2 {
		writes = 0 // they were synced
	}
	for _, fate := range fates(writes) {
		d, e := disk.Load(a.lies)
		if e != api.OK {
			t.Fatal(e)
		}
		d.Fuse(fuse)
		done := journal.Put(d, 2, 4, serial, l)
		if d.Pending() != writes {
			t.Fatalf("%d are pending, not %d", d.Pending(), writes)
		}
		d.Crash(fate)
		what := fmt.Sprintf("%s, %d pages, fuse %d, fate %v", a.what, len(l), fuse, fate)
		if want := fuse >= len(l)+2; (done == api.OK) != want || (done == api.ErrPower) == want {
			t.Fatalf("%s: Put answers %v", what, done)
		}
		judge(t, what, a, mustScan(t, d, 2, 4), all(serial, serial, l), done == api.OK)
		untouched(t, what, a.lies, d.Durable(), len(l))
	}
}

// judge holds what was found against what P6.4 allows.
func judge(t *testing.T, what string, a ahead, got, put journal.Found, done bool) {
	t.Helper()
	top := got.Top
	got.Top = put.Top
	old := a.found
	old.Top = put.Top
	isNew, isOld, isNone := same(got, put), same(got, old), same(got, none(put.Top))
	if done && !isNew || !isNew && !isOld && !isNone {
		t.Fatalf("%s: Scan tells %+v", what, got)
	}
	if top != put.Top && top != a.found.Top || isNew && top != put.Top {
		t.Fatalf("%s: Top is %d", what, top)
	}
}

// untouched looks at all pages but the header and the batch's slots.
func untouched(t *testing.T, what string, before, behind []string, slots int) {
	t.Helper()
	for n := range before {
		if (n < 2 || n > 2+slots) && before[n] != behind[n] {
			t.Fatalf("%s: page %d is another one", what, n)
		}
	}
}

// P6.4: whole, or not at all: every fuse, every fate of what was pending, over journals of many sorts.
func TestWholeOrNotAtAll(t *testing.T) {
	bodies := []string{"x", strings.Repeat("y", 996), ""}
	for _, a := range aheads(t) {
		for n := range 4 {
			var l []api.Page
			for i := range n {
				l = append(l, api.Page{Kind: uint8(i), Number: uint32(40 * i), Body: bodies[i]})
			}
			for fuse := range n + 4 {
				wholeOrNot(t, a, a.found.Top+1, l, fuse)
			}
		}
	}
}

// P6.4: serials that differ in one byte, at every word at which a page may be torn; the batch is the same but for its serial.
func TestTearsBetweenSerials(t *testing.T) {
	serials := []uint64{1, 2, 255, 256, 257, 511, 512, 65535, 65536, 1 << 56, 1<<56 + 1, top - 1, top}
	for i := 1; i < len(serials); i++ {
		lies := laid(t, byHand(t, 2, serials[i-1], two())...).Durable()
		for torn := range 3 {
			for cut := range 129 {
				d, _ := disk.Load(lies)
				d.Fuse(3)
				if e := journal.Put(d, 2, 4, serials[i], two()); e != api.ErrPower {
					t.Fatal(e)
				}
				d.Crash(api.Fate{Keep: []bool{true, true, true}, Torn: torn, Cut: cut})
				want := none(serials[i])
				if cut == 128 {
					want = all(serials[i], serials[i], two())
				}
				wantFound(t, fmt.Sprint(serials[i], ": ", torn, " cut at ", cut), d, 2, 4, want)
			}
		}
	}
}

// P6.5: one Put behind the other, each with a greater serial, shorter and longer ones, with losses of power between.
func TestPutsInARow(t *testing.T) {
	source := rand.New(rand.NewSource(65))
	d := blank(t, 30)
	found := none(0)
	for range 600 {
		l := many(23)[:source.Intn(24)]
		serial := found.Top + 1 + uint64(source.Intn(1000))
		if source.Intn(3) == 0 {
			d.Fuse(source.Intn(len(l) + 2))
			if e := journal.Put(d, 3, 24, serial, l); e != api.ErrPower {
				t.Fatalf("a Put with a fuse: %v", e)
			}
			var fate api.Fate
			for range d.Pending() {
				fate.Keep = append(fate.Keep, source.Intn(4) > 0)
			}
			fate.Torn, fate.Cut = source.Intn(25)-1, source.Intn(129)
			d.Crash(fate)
			judge(t, "a row", ahead{found: found}, mustScan(t, d, 3, 24), all(serial, serial, l), false)
		} else {
			mustPut(t, d, 3, 24, serial, l)
			wantFound(t, "a row", d, 3, 24, all(serial, serial, l))
		}
		found = mustScan(t, d, 3, 24)
	}
}

// someList is a list of pages of which now and then one does not rise.
func someList(source *rand.Rand) []api.Page {
	l := many(source.Intn(6))
	if len(l) > 0 && source.Intn(3) == 0 {
		l[source.Intn(len(l))].Number = uint32(source.Intn(20))
	}
	return l
}

// P6.3, P9: whatever pages of right sums lie there: what is told as whole, laid anew, is just what lies there.
func TestOneRowOfBytes(t *testing.T) {
	source := rand.New(rand.NewSource(66))
	wholes := 0
	for range 4000 {
		serial := uint64(source.Intn(4))
		pages := byHand(t, 2, serial, someList(source))
		switch source.Intn(3) {
		case 0:
			body := []byte(headerBody(someList(source)))
			body[source.Intn(len(body))] ^= byte(source.Intn(8))
			pages[0] = header(t, 74, serial, string(body))
		case 1:
			i := source.Intn(6)
			if i < len(pages) {
				pages[i] = slot(t, []uint8{67, 74, 1}[source.Intn(3)], uint32(2+i), uint64(source.Intn(4)), "z")
			}
		}
		if wholeIsRelaid(t, laid(t, pages...)) {
			wholes++
		}
	}
	if wholes < 800 || wholes > 3000 {
		t.Errorf("%d of 4000 were whole: the test has lost its weight", wholes)
	}
}

func wholeIsRelaid(t *testing.T, d *disk.Disk) bool {
	t.Helper()
	lies := d.Durable()
	f := mustScan(t, d, 2, 4)
	if !f.Whole {
		if f.Serial != 0 || len(f.Pages) != 0 {
			t.Fatalf("not whole, and %+v", f)
		}
		return false
	}
	again := byHand(t, 2, f.Serial, f.Pages)
	if len(f.Pages) > 3 || f.Serial == 0 || !slices.Equal(again, lies[2:2+len(again)]) {
		t.Fatalf("%+v is laid anew as other pages", f)
	}
	for i, p := range f.Pages {
		if p.Serial != f.Serial || i > 0 && f.Pages[i-1].Number >= p.Number {
			t.Fatalf("%+v", f)
		}
	}
	return true
}
