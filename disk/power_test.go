package disk_test

import (
	"math"
	"slices"
	"testing"

	"concord/api"
	"concord/disk"
)

// threeWrites is example 2's disk: 11 and 00 lie there; 22, then 44 are pending on page 0, 33 between them on page 1.
func threeWrites(t *testing.T) *disk.Disk {
	t.Helper()
	d := blank(t, 2)
	put(t, d, 0, 0x11)
	sync(t, d)
	put(t, d, 0, 0x22)
	put(t, d, 1, 0x33)
	put(t, d, 0, 0x44)
	return d
}

// P4.7: fates of three writes, those of examples 2 and 3 among them.
func TestCrash(t *testing.T) {
	yes, no := true, false
	fates := []struct {
		what  string
		fate  api.Fate
		pages [2]string
	}{
		{"example 2", api.Fate{Keep: []bool{yes, no, no}, Torn: 2, Cut: 1}, [2]string{of(0x44, 8) + of(0x22, 1016), full(0)}},
		{"example 3, torn behind its end", api.Fate{Torn: 0, Cut: 200}, [2]string{full(0x22), full(0)}},
		{"example 3, not begun", api.Fate{Keep: []bool{yes, yes, yes}, Torn: 0, Cut: -5}, [2]string{full(0x44), full(0x33)}},
		{"the zero fate", api.Fate{}, [2]string{full(0x11), full(0)}},
		{"none kept, none torn", api.Fate{Torn: -1, Cut: 128}, [2]string{full(0x11), full(0)}},
		{"all kept, none torn", api.Fate{Keep: []bool{yes, yes, yes}, Torn: -1}, [2]string{full(0x44), full(0x33)}},
		{"torn behind the last", api.Fate{Keep: []bool{yes, yes, yes}, Torn: 3, Cut: 0}, [2]string{full(0x44), full(0x33)}},
		{"torn far away", api.Fate{Keep: []bool{yes, yes, yes}, Torn: math.MaxInt, Cut: 0}, [2]string{full(0x44), full(0x33)}},
		{"torn far below", api.Fate{Keep: []bool{yes, yes, yes}, Torn: math.MinInt, Cut: 0}, [2]string{full(0x44), full(0x33)}},
		{"the first alone", api.Fate{Keep: []bool{yes}, Torn: -1}, [2]string{full(0x22), full(0)}},
		{"the last alone", api.Fate{Keep: []bool{no, no, yes}, Torn: -1}, [2]string{full(0x44), full(0)}},
		{"the middle alone", api.Fate{Keep: []bool{no, yes}, Torn: -1}, [2]string{full(0x11), full(0x33)}},
		{"more places than writes", api.Fate{Keep: []bool{no, no, no, yes, yes}, Torn: 4, Cut: 9}, [2]string{full(0x11), full(0)}},
		{"kept and torn: torn", api.Fate{Keep: []bool{no, yes, no}, Torn: 1, Cut: 2}, [2]string{full(0x11), of(0x33, 16) + of(0, 1008)}},
		{"not kept and torn: torn", api.Fate{Keep: []bool{no, no, no}, Torn: 1, Cut: 127}, [2]string{full(0x11), of(0x33, 1016) + of(0, 8)}},
		{"torn, no such place", api.Fate{Torn: 2, Cut: 64}, [2]string{of(0x44, 512) + of(0x11, 512), full(0)}},
		{"torn, then a whole one", api.Fate{Keep: []bool{no, no, yes}, Torn: 0, Cut: 5}, [2]string{full(0x44), full(0)}},
		{"torn, then none", api.Fate{Torn: 0, Cut: 5}, [2]string{of(0x22, 40) + of(0x11, 984), full(0)}},
		{"a cut of all words", api.Fate{Torn: 2, Cut: 128}, [2]string{full(0x44), full(0)}},
		{"a cut of one more", api.Fate{Torn: 2, Cut: 129}, [2]string{full(0x44), full(0)}},
		{"a cut that can not be more", api.Fate{Torn: 2, Cut: math.MaxInt}, [2]string{full(0x44), full(0)}},
		{"a cut that can not be less", api.Fate{Keep: []bool{no, no, yes}, Torn: 2, Cut: math.MinInt}, [2]string{full(0x11), full(0)}},
		{"a cut of nothing", api.Fate{Keep: []bool{yes, yes, yes}, Torn: 2, Cut: 0}, [2]string{full(0x22), full(0x33)}},
	}
	for _, c := range fates {
		d := threeWrites(t)
		kept := slices.Clone(c.fate.Keep)
		d.Crash(c.fate)
		if !slices.Equal(kept, c.fate.Keep) {
			t.Errorf("%s: Crash changes the fate", c.what)
		}
		wantStands(t, c.what, d, 0, true)
		wantLies(t, c.what, d, c.pages[0], c.pages[1])
		wantRead(t, c.what, d, c.pages[0], c.pages[1])
		d.Crash(api.Fate{Keep: []bool{yes, yes, yes}, Torn: 1, Cut: 7})
		wantLies(t, c.what+", crashed again", d, c.pages[0], c.pages[1])
	}
}

// P4.7: each cut is one of whole words, from the page's beginning on.
func TestCuts(t *testing.T) {
	for cut := -2; cut <= 130; cut++ {
		d := loaded(t, 1, 2, 3)
		put(t, d, 1, 9)
		d.Crash(api.Fate{Torn: 0, Cut: cut})
		n := 8 * min(max(cut, 0), 128)
		wantLies(t, "cut", d, full(1), of(9, n)+of(2, 1024-n), full(3))
	}
}

// P4.7: Crash takes the fuse out, whether the power is on or off, and pending writes are numbered from 0 on again.
func TestBehindACrash(t *testing.T) {
	for _, fuse := range []int{-1, 0, 1, 2, 5} {
		d := loaded(t, 1, 2)
		d.Fuse(fuse)
		d.Write(1, []byte(full(7)))
		d.Sync()
		d.Write(1, []byte(full(8)))
		d.Crash(api.Fate{Torn: -1})
		wantStands(t, "crashed", d, 0, true)
		for i := range 100 {
			put(t, d, i%2, byte(i))
		}
		sync(t, d)
		put(t, d, 0, 0x77)
		put(t, d, 1, 0x88)
		d.Crash(api.Fate{Keep: []bool{false, true}, Torn: -1})
		wantLies(t, "crashed again", d, full(98), full(0x88))
	}
}

// P4.6: example 4.
func TestFuseExample(t *testing.T) {
	d := blank(t, 2)
	d.Fuse(1)
	put(t, d, 0, 0x11)
	if e := d.Sync(); e != api.ErrPower {
		t.Errorf("Sync: %v", e)
	}
	wantStands(t, "the fuse has gone", d, 1, false)
	wantWithoutPower(t, d)
	wantStands(t, "still", d, 1, false)
	d.Crash(api.Fate{})
	wantStands(t, "crashed", d, 0, true)
	wantLies(t, "crashed", d, full(0), full(0))
	d.Fuse(0)
	if e := d.Write(9, []byte(full(1))); e != api.ErrArg || !d.Lit() {
		t.Errorf("Write(9): %v, Lit %v", e, d.Lit())
	}
	if e := d.Write(0, []byte(full(1))); e != api.ErrPower || d.Lit() {
		t.Errorf("Write(0): %v, Lit %v", e, d.Lit())
	}
}

// wantWithoutPower asks that Read, Write and Sync answer ErrPower, whatever they are handed.
func wantWithoutPower(t *testing.T, d *disk.Disk) {
	t.Helper()
	for _, n := range append(nowhere(d.Pages()), 0, d.Pages()-1) {
		if b, e := d.Read(n); len(b) != 0 || e != api.ErrPower {
			t.Errorf("Read(%d) without power: %d bytes, %v", n, len(b), e)
		}
		if e := d.Write(n, []byte(full(1))); e != api.ErrPower {
			t.Errorf("Write(%d) without power: %v", n, e)
		}
		if e := d.Write(n, nil); e != api.ErrPower {
			t.Errorf("Write(%d, nil) without power: %v", n, e)
		}
	}
	if e := d.Sync(); e != api.ErrPower {
		t.Errorf("Sync without power: %v", e)
	}
}

// P4.2, P4.3, P4.4, P4.5: without power nothing is done, and the four that tell go on telling.
func TestWithoutPower(t *testing.T) {
	d := loaded(t, 1, 2, 3)
	put(t, d, 0, 4)
	sync(t, d)
	put(t, d, 1, 5)
	d.Fuse(0)
	if e := d.Write(2, []byte(full(6))); e != api.ErrPower {
		t.Fatalf("Write: %v", e)
	}
	wantWithoutPower(t, d)
	if d.Pages() != 3 {
		t.Errorf("Pages is %d", d.Pages())
	}
	wantStands(t, "off", d, 1, false)
	wantLies(t, "off", d, full(4), full(2), full(3))
	d.Crash(api.Fate{Keep: []bool{true, true, true}, Torn: -1})
	wantLies(t, "on again", d, full(4), full(5), full(3))
	wantStands(t, "on again", d, 0, true)
}

// P4.6: an act that is refused ahead of the fuse does not ask it, and reading is no act.
func TestWhoAsksTheFuse(t *testing.T) {
	d := loaded(t, 1, 2)
	d.Fuse(2)
	for _, n := range nowhere(2) {
		d.Write(n, []byte(full(1)))
		d.Read(n)
	}
	for range 10 {
		d.Write(0, make([]byte, 1023))
		d.Read(0)
		d.Pages()
		d.Pending()
		d.Durable()
		d.Lit()
	}
	put(t, d, 0, 7)
	sync(t, d)
	d.Write(0, nil)
	d.Write(2, []byte(full(1)))
	d.Read(1)
	wantStands(t, "two acts", d, 0, true)
	wantRead(t, "two acts", d, full(7), full(2))
	if e := d.Sync(); e != api.ErrPower || d.Lit() {
		t.Errorf("the third: %v, Lit %v", e, d.Lit())
	}
}

// P4.5, P4.6: a sync that the fuse does not let through leaves all pending.
func TestSyncAtTheFuse(t *testing.T) {
	d := loaded(t, 1, 2)
	put(t, d, 0, 7)
	put(t, d, 1, 8)
	d.Fuse(0)
	if e := d.Sync(); e != api.ErrPower {
		t.Fatalf("Sync: %v", e)
	}
	wantStands(t, "off", d, 2, false)
	wantLies(t, "off", d, full(1), full(2))
	d.Crash(api.Fate{Keep: []bool{false, true}, Torn: -1})
	wantLies(t, "on again", d, full(1), full(8))
}

// P4.6: a further Fuse takes the place of the one before; below 0 there is none; without power it does nothing.
func TestFuseAgain(t *testing.T) {
	d := loaded(t, 1)
	d.Fuse(1)
	put(t, d, 0, 2)
	d.Fuse(2)
	put(t, d, 0, 3)
	put(t, d, 0, 4)
	d.Fuse(-1)
	for range 50 {
		sync(t, d)
	}
	d.Fuse(0)
	d.Fuse(math.MinInt)
	sync(t, d)
	d.Fuse(math.MaxInt)
	sync(t, d)
	d.Fuse(0)
	d.Sync()
	for _, n := range []int{-1, 0, 1, math.MaxInt} {
		d.Fuse(n)
		wantStands(t, "off", d, 0, false)
		wantWithoutPower(t, d)
	}
	d.Crash(api.Fate{})
	sync(t, d)
	sync(t, d)
}

// P4.11: behind Fuse(n) just n acts are done, all behind them answer ErrPower, till Crash.
func TestFuseLetsJustSoMany(t *testing.T) {
	for n := range 12 {
		for syncs := range 4 {
			d := loaded(t, 1, 2)
			d.Fuse(n)
			done := 0
			for i := range 30 {
				d.Write(5, []byte(full(3)))
				want := api.OK
				if i >= n {
					want = api.ErrPower
				}
				if e := act(d, i, syncs); e != want {
					t.Errorf("Fuse(%d): the act %d answers %v", n, i, e)
				} else if e == api.OK {
					done++
				}
			}
			if done != n || d.Lit() {
				t.Errorf("Fuse(%d): %d acts, Lit %v", n, done, d.Lit())
			}
			d.Crash(api.Fate{})
			for i := range 30 {
				if e := act(d, i, syncs); e != api.OK {
					t.Errorf("behind Crash: the act %d answers %v", i, e)
				}
			}
		}
	}
}

// act is a sync now and then, and else a write.
func act(d *disk.Disk, i, syncs int) api.Errno {
	if i%4 < syncs {
		return d.Sync()
	}
	return d.Write(i%2, []byte(full(byte(i))))
}
