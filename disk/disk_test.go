package disk_test

import (
	"fmt"
	"math"
	"slices"
	"strings"
	"testing"

	"concord/api"
	"concord/disk"
)

// of is a byte, so often.
func of(c byte, n int) string { return strings.Repeat(string([]byte{c}), n) }

// full is a page of one byte, as a text.
func full(c byte) string { return of(c, api.PageSize) }

// blank is a new disk.
func blank(t *testing.T, pages int) *disk.Disk {
	t.Helper()
	d, e := disk.New(pages)
	if e != api.OK || d == nil {
		t.Fatalf("New(%d): %v, %v", pages, d, e)
	}
	return d
}

// loaded is a disk on which pages of one byte each lie.
func loaded(t *testing.T, of ...byte) *disk.Disk {
	t.Helper()
	var l []string
	for _, c := range of {
		l = append(l, full(c))
	}
	d, e := disk.Load(l)
	if e != api.OK || d == nil {
		t.Fatalf("Load of %d pages: %v, %v", len(l), d, e)
	}
	return d
}

// put writes a page of one byte.
func put(t *testing.T, d disk.Device, n int, c byte) {
	t.Helper()
	if e := d.Write(n, []byte(full(c))); e != api.OK {
		t.Fatalf("Write(%d): %v", n, e)
	}
}

// sync asks for an OK of Sync.
func sync(t *testing.T, d disk.Device) {
	t.Helper()
	if e := d.Sync(); e != api.OK {
		t.Fatalf("Sync: %v", e)
	}
}

// short tells a page's ends, for a test's own words.
func short(s string) string {
	if len(s) != api.PageSize {
		return "a page of another length"
	}
	return fmt.Sprintf("%x..%x", s[:16], s[len(s)-8:])
}

// wantLies holds what lies on a disk against what should.
func wantLies(t *testing.T, what string, d *disk.Disk, want ...string) {
	t.Helper()
	got := d.Durable()
	if len(got) != len(want) {
		t.Fatalf("%s: Durable tells %d pages, want %d", what, len(got), len(want))
	}
	for i := range want {
		if got[i] != want[i] {
			t.Errorf("%s: on page %d lies %s, want %s", what, i, short(got[i]), short(want[i]))
		}
	}
}

// wantRead holds what is read of each page against what should be.
func wantRead(t *testing.T, what string, d disk.Device, want ...string) {
	t.Helper()
	if d.Pages() != len(want) {
		t.Fatalf("%s: %d pages, want %d", what, d.Pages(), len(want))
	}
	for i := range want {
		if b, e := d.Read(i); e != api.OK || string(b) != want[i] {
			t.Errorf("%s: Read(%d) tells %s, %v, want %s", what, i, short(string(b)), e, short(want[i]))
		}
	}
}

// wantStands asks for how many are pending, and for the power.
func wantStands(t *testing.T, what string, d *disk.Disk, pending int, lit bool) {
	t.Helper()
	if d.Pending() != pending || d.Lit() != lit {
		t.Errorf("%s: Pending %d, Lit %v, want %d, %v", what, d.Pending(), d.Lit(), pending, lit)
	}
}

// nowhere are numbers of no page of a disk of n pages.
func nowhere(n int) []int {
	return []int{math.MinInt, math.MinInt32, -1024, -1, n, n + 1, n + 1024, api.MaxPages, api.MaxPages + 1, math.MaxInt32, math.MaxInt}
}

// P4.1: a new disk has pages of noughts, nothing pending, power, and no fuse.
func TestNew(t *testing.T) {
	for _, n := range []int{1, 2, 3, 96, 4095, api.MaxPages} {
		d := blank(t, n)
		want := slices.Repeat([]string{full(0)}, n)
		wantLies(t, "New", d, want...)
		wantRead(t, "New", d, want...)
		wantStands(t, "New", d, 0, true)
		for i := range 300 {
			put(t, d, i%n, byte(i))
		}
		sync(t, d)
	}
}

// P4.1: a loaded disk has the pages that it was handed, nothing pending, power, and no fuse.
func TestLoad(t *testing.T) {
	for _, n := range []int{1, 2, 5, api.MaxPages} {
		var l []string
		for i := range n {
			l = append(l, full(byte(i))[8:]+of(byte(i/256), 7)+"\xff")
		}
		kept := slices.Clone(l)
		d, e := disk.Load(l)
		if e != api.OK || d == nil {
			t.Fatalf("Load of %d pages: %v, %v", n, d, e)
		}
		if !slices.Equal(l, kept) {
			t.Fatal("Load changes its list")
		}
		clear(l)
		wantLies(t, "Load", d, kept...)
		wantRead(t, "Load", d, kept...)
		wantStands(t, "Load", d, 0, true)
		for i := range 300 {
			put(t, d, i%n, byte(i))
		}
		sync(t, d)
	}
}

// P4.1: numbers and lists of which no disk is made.
func TestDisksThatAreNone(t *testing.T) {
	for _, n := range []int{math.MinInt, math.MinInt32, -4096, -1, 0, api.MaxPages + 1, math.MaxInt32, math.MaxInt} {
		if d, e := disk.New(n); d != nil || e != api.ErrArg {
			t.Errorf("New(%d): %v, %v", n, d, e)
		}
	}
	lists := [][]string{
		nil,
		{},
		{""},
		{of(0, 1023)},
		{of(0, 1025)},
		{of(0, 2048)},
		{full(1), of(2, 1025)},
		{full(1), of(2, 1023), full(3)},
		{"", full(1)},
		slices.Repeat([]string{full(7)}, api.MaxPages+1),
		slices.Repeat([]string{""}, api.MaxPages+1),
		append(slices.Repeat([]string{full(7)}, api.MaxPages-1), "x"),
	}
	for i, l := range lists {
		if d, e := disk.Load(l); d != nil || e != api.ErrArg {
			t.Errorf("Load of the list %d: %v, %v", i, d, e)
		}
	}
}

// P4.2, P4.3, P4.4, P4.5: example 2's first half: what is written is read at once, and lies there behind a sync.
func TestWriteAndSync(t *testing.T) {
	d := blank(t, 2)
	put(t, d, 0, 0x11)
	wantRead(t, "written", d, full(0x11), full(0))
	wantLies(t, "written", d, full(0), full(0))
	wantStands(t, "written", d, 1, true)
	sync(t, d)
	wantRead(t, "synced", d, full(0x11), full(0))
	wantLies(t, "synced", d, full(0x11), full(0))
	wantStands(t, "synced", d, 0, true)
	put(t, d, 0, 0x22)
	put(t, d, 1, 0x33)
	put(t, d, 0, 0x44)
	wantRead(t, "three more", d, full(0x44), full(0x33))
	wantLies(t, "three more", d, full(0x11), full(0))
	wantStands(t, "three more", d, 3, true)
	sync(t, d)
	wantRead(t, "three synced", d, full(0x44), full(0x33))
	wantLies(t, "three synced", d, full(0x44), full(0x33))
	wantStands(t, "three synced", d, 0, true)
	sync(t, d)
	wantLies(t, "synced again", d, full(0x44), full(0x33))
	if d.Pages() != 2 {
		t.Errorf("Pages is %d", d.Pages())
	}
}

// P4.4: a write of what lies there already is pending like any other.
func TestWriteOfTheSame(t *testing.T) {
	d := loaded(t, 5)
	put(t, d, 0, 5)
	put(t, d, 0, 5)
	wantStands(t, "written twice", d, 2, true)
	wantLies(t, "written twice", d, full(5))
}

// P4.3: pages that there are not; nothing is told beside the error.
func TestReadNowhere(t *testing.T) {
	d := loaded(t, 1, 2, 3)
	put(t, d, 2, 9)
	for _, n := range nowhere(3) {
		if b, e := d.Read(n); len(b) != 0 || e != api.ErrArg {
			t.Errorf("Read(%d): %d bytes, %v", n, len(b), e)
		}
	}
}

// P4.4: example 1 and more: pages that there are not, and bytes that are no page; nothing is changed.
func TestWritesThatMayNotBe(t *testing.T) {
	d := loaded(t, 1, 2)
	put(t, d, 1, 9)
	for _, n := range nowhere(2) {
		if e := d.Write(n, []byte(full(7))); e != api.ErrArg {
			t.Errorf("Write(%d): %v", n, e)
		}
	}
	for _, size := range []int{0, 1, 8, 1016, 1023, 1025, 2048} {
		for n := range 2 {
			if e := d.Write(n, make([]byte, size)); e != api.ErrArg {
				t.Errorf("Write(%d) of %d bytes: %v", n, size, e)
			}
		}
	}
	if e := d.Write(0, nil); e != api.ErrArg {
		t.Errorf("Write of nil: %v", e)
	}
	wantStands(t, "refused", d, 1, true)
	wantRead(t, "refused", d, full(1), full(9))
	wantLies(t, "refused", d, full(1), full(2))
}

// R3, P4.3, P4.4: what is written is neither changed nor kept, with the room behind it; what is read or told is new memory.
func TestMemory(t *testing.T) {
	d := loaded(t, 1, 2)
	room := []byte(full(3) + "behind")
	b := room[:api.PageSize]
	if e := d.Write(0, b); e != api.OK {
		t.Fatal(e)
	}
	if string(room) != full(3)+"behind" {
		t.Fatal("Write changes what it is handed")
	}
	clear(room)
	wantRead(t, "written", d, full(3), full(2))
	for n, want := range []string{full(3), full(2)} {
		for range 2 {
			got, e := d.Read(n)
			if e != api.OK || string(got) != want {
				t.Fatalf("Read(%d): %s, %v", n, short(string(got)), e)
			}
			clear(got[:cap(got)])
		}
	}
	sync(t, d)
	got, _ := d.Read(0)
	clear(got[:cap(got)])
	told := d.Durable()
	clear(told[:cap(told)])
	wantLies(t, "told", d, full(3), full(2))
	first, _ := d.Read(0)
	second, _ := d.Read(0)
	clear(first)
	if string(second) != full(3) {
		t.Error("two reads share memory")
	}
}

// P4.2: Durable tells what lay there when it was asked.
func TestDurableStays(t *testing.T) {
	d := loaded(t, 1, 2)
	before := d.Durable()
	put(t, d, 0, 7)
	sync(t, d)
	put(t, d, 1, 8)
	d.Crash(api.Fate{Keep: []bool{true}, Torn: -1})
	if !slices.Equal(before, []string{full(1), full(2)}) {
		t.Error("what Durable told has changed")
	}
	wantLies(t, "behind it", d, full(7), full(8))
}

// R2: two disks of the same pages do not see one another.
func TestTwoDisks(t *testing.T) {
	l := []string{full(1), full(2)}
	a, _ := disk.Load(l)
	b, _ := disk.Load(l)
	put(t, a, 0, 9)
	a.Fuse(1)
	sync(t, a)
	a.Sync()
	wantStands(t, "the other", b, 0, true)
	wantLies(t, "the other", b, l...)
	sync(t, b)
}

// Pages' bytes stand at their places.
func TestEachByteItsPlace(t *testing.T) {
	page := make([]byte, api.PageSize)
	for i := range page {
		page[i] = byte(i*7 + i/256)
	}
	d := blank(t, 1)
	if e := d.Write(0, page); e != api.OK {
		t.Fatal(e)
	}
	wantRead(t, "pending", d, string(page))
	sync(t, d)
	wantRead(t, "synced", d, string(page))
	wantLies(t, "synced", d, string(page))
}

// P4.8: of a nil disk.
func TestNilDisk(t *testing.T) {
	var d *disk.Disk
	d.Fuse(0)
	d.Fuse(-1)
	d.Crash(api.Fate{})
	d.Crash(api.Fate{Keep: []bool{true}, Torn: 0, Cut: 3})
	if d.Pages() != 0 || d.Pending() != 0 || d.Lit() || len(d.Durable()) != 0 {
		t.Error("a nil disk tells something")
	}
	for _, n := range []int{math.MinInt, -1, 0, 1, math.MaxInt} {
		if b, e := d.Read(n); len(b) != 0 || e != api.ErrNil {
			t.Errorf("Read(%d): %d bytes, %v", n, len(b), e)
		}
		if e := d.Write(n, nil); e != api.ErrNil {
			t.Errorf("Write(%d, nil): %v", n, e)
		}
		if e := d.Write(n, []byte(full(1))); e != api.ErrNil {
			t.Errorf("Write(%d): %v", n, e)
		}
	}
	if e := d.Sync(); e != api.ErrNil {
		t.Errorf("Sync: %v", e)
	}
	if device := disk.Device(d); device.Pages() != 0 || device.Sync() != api.ErrNil {
		t.Error("a nil disk as a device")
	}
}

// R1: a disk that was not made by this package's calls does not panic.
func TestDiskOfNoCall(t *testing.T) {
	for _, d := range []*disk.Disk{{}, new(disk.Disk)} {
		d.Fuse(3)
		d.Read(0)
		d.Write(0, []byte(full(1)))
		d.Sync()
		d.Crash(api.Fate{Keep: []bool{true}, Cut: 5})
		d.Pages()
		d.Pending()
		d.Lit()
		d.Durable()
	}
}

// The chapter's section The calls: a disk is a device, and all that goes through that interface is done to the disk.
func TestDevice(t *testing.T) {
	d := loaded(t, 1, 2)
	var device disk.Device = d
	put(t, device, 1, 8)
	wantRead(t, "as a device", device, full(1), full(8))
	wantStands(t, "as a device", d, 1, true)
	sync(t, device)
	wantLies(t, "as a device", d, full(1), full(8))
	d.Fuse(0)
	if e := device.Sync(); e != api.ErrPower {
		t.Errorf("Sync of the device: %v", e)
	}
	wantStands(t, "as a device", d, 0, false)
}
