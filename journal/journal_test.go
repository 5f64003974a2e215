package journal_test

import (
	"fmt"
	"math"
	"slices"
	"strings"
	"testing"

	"concord/api"
	"concord/disk"
	"concord/journal"
	"concord/page"
)

const top = uint64(1) << 62 // the greatest serial

// spy is a device that notes what it is asked, and may refuse one of the acts.
type spy struct {
	disk.Device
	asked  []string
	refuse int // which of the acts but Pages; none, if below 0
	with   api.Errno
}

func (s *spy) refuses(what string) bool {
	s.asked = append(s.asked, what)
	return s.refuse == len(s.asked)-1
}

func (s *spy) Read(n int) ([]byte, api.Errno) {
	if s.refuses(fmt.Sprint("read ", n)) {
		return []byte("what a refusal tells beside it"), s.with
	}
	return s.Device.Read(n)
}

func (s *spy) Write(n int, b []byte) api.Errno {
	if s.refuses(fmt.Sprint("write ", n)) {
		return s.with
	}
	return s.Device.Write(n, b)
}

func (s *spy) Sync() api.Errno {
	if s.refuses("sync") {
		return s.with
	}
	return s.Device.Sync()
}

func blank(t *testing.T, pages int) *disk.Disk {
	t.Helper()
	d, e := disk.New(pages)
	if e != api.OK {
		t.Fatalf("New(%d): %v", pages, e)
	}
	return d
}

// two are the pages of the chapter's example.
func two() []api.Page {
	return []api.Page{{Kind: 1, Number: 5, Body: "ab"}, {Kind: 2, Number: 9}}
}

// many are n pages that may be a batch.
func many(n int) []api.Page {
	l := make([]api.Page, n)
	for i := range l {
		l[i] = api.Page{Kind: uint8(7 * i), Number: uint32(3*i + i%2), Serial: uint64(1000 + i), Body: strings.Repeat(fmt.Sprint(i), i%300)}
	}
	return l
}

// withSerial is a batch as Scan tells it.
func withSerial(l []api.Page, serial uint64) []api.Page {
	l = slices.Clone(l)
	for i := range l {
		l[i].Serial = serial
	}
	return l
}

// headerBody is a header's body, byte by byte as the chapter tells it.
func headerBody(l []api.Page) string {
	var b []byte
	if len(l) < 128 {
		b = append(b, byte(len(l)))
	} else {
		b = append(b, byte(len(l)-128)|128, 1)
	}
	for _, p := range l {
		b = append(b, p.Kind, byte(p.Number>>24), byte(p.Number>>16), byte(p.Number>>8), byte(p.Number))
	}
	return string(b)
}

func encoded(t *testing.T, p api.Page) []byte {
	t.Helper()
	b, e := page.Encode(p)
	if e != api.OK {
		t.Fatalf("Encode of kind %d, number %d, serial %d, %d bytes: %v", p.Kind, p.Number, p.Serial, len(p.Body), e)
	}
	return b
}

// byHand are the header and the slots of a batch, as they should lie.
func byHand(t *testing.T, first int, serial uint64, l []api.Page) []string {
	t.Helper()
	told := []string{string(encoded(t, api.Page{Kind: 74, Number: uint32(first), Serial: serial, Body: headerBody(l)}))}
	for i, p := range l {
		told = append(told, string(encoded(t, api.Page{Kind: 67, Number: uint32(first + 1 + i), Serial: serial, Body: p.Body})))
	}
	return told
}

func mustPut(t *testing.T, d disk.Device, first, count int, serial uint64, l []api.Page) {
	t.Helper()
	if e := journal.Put(d, first, count, serial, l); e != api.OK {
		t.Fatalf("Put(first %d, count %d, serial %d, %d pages): %v", first, count, serial, len(l), e)
	}
}

func mustScan(t *testing.T, d disk.Device, first, count int) journal.Found {
	t.Helper()
	f, e := journal.Scan(d, first, count)
	if e != api.OK {
		t.Fatalf("Scan(first %d, count %d): %v", first, count, e)
	}
	return f
}

// same holds two Founds against one another.
func same(a, b journal.Found) bool {
	return a.Top == b.Top && a.Whole == b.Whole && a.Serial == b.Serial && slices.Equal(a.Pages, b.Pages)
}

// wantFound holds what is found in a journal against what should be.
func wantFound(t *testing.T, what string, d disk.Device, first, count int, want journal.Found) {
	t.Helper()
	if got := mustScan(t, d, first, count); !same(got, want) {
		t.Errorf("%s: Scan tells Top %d, Whole %v, Serial %d, %d pages; want Top %d, Whole %v, Serial %d, %d pages", what,
			got.Top, got.Whole, got.Serial, len(got.Pages), want.Top, want.Whole, want.Serial, len(want.Pages))
	}
}

// none is what is found where there is no whole batch.
func none(top uint64) journal.Found { return journal.Found{Top: top} }

// all is what is found where there is one.
func all(top, serial uint64, l []api.Page) journal.Found {
	return journal.Found{Top: top, Whole: true, Serial: serial, Pages: withSerial(l, serial)}
}

// P6.1: the examples, and both edges.
func TestRoom(t *testing.T) {
	for _, c := range [][2]int{
		{math.MinInt, 0}, {math.MinInt + 1, 0}, {math.MinInt32, 0}, {-1, 0}, {0, 0}, {1, 0}, {2, 1}, {3, 2}, {4, 3}, {24, 23},
		{197, 196}, {198, 197}, {199, 198}, {200, 198}, {201, 198}, {500, 198}, {4096, 198}, {math.MaxInt32, 198}, {math.MaxInt, 198},
	} {
		if got := journal.Room(c[0]); got != c[1] {
			t.Errorf("Room(%d) is %d, want %d", c[0], got, c[1])
		}
	}
}

// P6.2: the chapter's example, page by page; all is synced, and nothing else is touched.
func TestPutOfTheExample(t *testing.T) {
	d := blank(t, 8)
	mustPut(t, d, 2, 4, 7, two())
	lies := d.Durable()
	for _, want := range []api.Page{
		{Kind: 67, Number: 3, Serial: 7, Body: "ab"},
		{Kind: 67, Number: 4, Serial: 7},
		{Kind: 74, Number: 2, Serial: 7, Body: "\x02\x01\x00\x00\x00\x05\x02\x00\x00\x00\x09"},
	} {
		if got, e := page.Decode([]byte(lies[want.Number]), want.Number); e != api.OK || got != want {
			t.Errorf("page %d: %+v, %v", want.Number, got, e)
		}
	}
	for _, n := range []int{0, 1, 5, 6, 7} {
		if !page.Blank([]byte(lies[n])) {
			t.Errorf("page %d was touched", n)
		}
	}
	if d.Pending() != 0 {
		t.Errorf("%d writes are pending", d.Pending())
	}
}

// P6.2: a batch lies there as the chapter says, at the edges of how many pages, which places, serials, Kinds, Numbers and Bodies.
func TestPutLaysABatch(t *testing.T) {
	edges := []api.Page{
		{Kind: 0, Number: 0, Serial: 1<<64 - 1, Body: strings.Repeat("\xff", 996)},
		{Kind: 74, Number: 1 << 31, Body: "\x00"},
		{Kind: 255, Number: 1<<32 - 1, Serial: 5, Body: strings.Repeat("\x00", 995)},
	}
	for i, c := range []struct {
		pages, first, count int
		serial              uint64
		l                   []api.Page
	}{
		{1, 0, 1, 1, nil}, {1, 0, 1, top, []api.Page{}}, {8, 7, 1, 3, nil}, {8, 0, 8, 1, many(7)}, {8, 5, 3, top, edges[:2]},
		{8, 2, 4, top - 1, edges}, {4, 0, 4, 258, edges}, {24, 0, 24, 9, many(23)}, {130, 1, 129, 9, many(128)},
		{129, 1, 128, 9, many(127)}, {199, 0, 199, 9, many(198)}, {300, 3, 297, 9, many(198)}, {4096, 0, 4096, 9, many(198)},
		{4096, 4092, 4, 9, edges}, {4096, 256, 3000, 256, many(3)},
	} {
		d := blank(t, c.pages)
		mustPut(t, d, c.first, c.count, c.serial, c.l)
		want := blank(t, c.pages).Durable()
		copy(want[c.first:], byHand(t, c.first, c.serial, c.l))
		if !slices.Equal(d.Durable(), want) {
			t.Errorf("row %d: another disk than the batch asks for", i)
		}
		wantFound(t, fmt.Sprint("row ", i), d, c.first, c.count, all(c.serial, c.serial, c.l))
	}
}

// P6.2: just these calls of the device, in this order.
func TestPutsCalls(t *testing.T) {
	for n, want := range [][]string{
		{"write 2", "sync"},
		{"write 3", "write 2", "sync"},
		{"write 3", "write 4", "write 2", "sync"},
		{"write 3", "write 4", "write 5", "write 2", "sync"},
	} {
		s := &spy{Device: blank(t, 8), refuse: -1}
		mustPut(t, s, 2, 4, 7, many(n))
		if !slices.Equal(s.asked, want) {
			t.Errorf("%d pages: %q, want %q", n, s.asked, want)
		}
	}
}

// P6.2: the first call that answers an error ends it, and its error is the answer.
func TestPutIsRefusedByTheDevice(t *testing.T) {
	calls := []string{"write 3", "write 4", "write 2", "sync"}
	for at := range calls {
		for _, with := range []api.Errno{api.ErrPower, api.ErrArg, api.ErrNil, api.ErrLine, -5} {
			s := &spy{Device: blank(t, 8), refuse: at, with: with}
			if e := journal.Put(s, 2, 4, 7, two()); e != with {
				t.Errorf("call %d refused with %v: %v", at, with, e)
			}
			if !slices.Equal(s.asked, calls[:at+1]) {
				t.Errorf("call %d refused: %q", at, s.asked)
			}
		}
	}
	d := blank(t, 8)
	d.Fuse(0)
	d.Sync()
	if e := journal.Put(d, 2, 4, 7, two()); e != api.ErrPower {
		t.Errorf("Put without power: %v", e)
	}
}

// P6.2: what is wrong, in the table's order; the device is asked for nothing but Pages then.
func TestPutRefuses(t *testing.T) {
	big := strings.Repeat("x", 997)
	unordered := []api.Page{{Number: 5}, {Number: 5}}
	for i, c := range []struct {
		first, count int
		serial       uint64
		l            []api.Page
		want         api.Errno
	}{
		{2, 4, 0, two(), api.ErrArg},
		{2, 4, top + 1, two(), api.ErrArg},
		{2, 4, 1<<64 - 1, nil, api.ErrArg},
		{2, 4, 8, make([]api.Page, 4), api.ErrBatch},
		{2, 4, 8, many(4), api.ErrBatch},
		{2, 1, 8, many(1), api.ErrBatch},
		{2, 6, 8, many(6), api.ErrBatch},
		{2, 4, 8, unordered, api.ErrArg},
		{2, 4, 8, []api.Page{{Number: 6}, {Number: 5}}, api.ErrArg},
		{2, 4, 8, []api.Page{{Number: 1}, {Number: 3}, {Number: 2}}, api.ErrArg},
		{2, 4, 8, []api.Page{{Number: 1}, {Number: 3}, {Number: 3}}, api.ErrArg},
		{2, 4, 8, []api.Page{{Number: 1 << 31}, {Number: 0}}, api.ErrArg},
		{2, 4, 8, []api.Page{{Body: big}}, api.ErrBig},
		{2, 4, 8, []api.Page{{Number: 1}, {Number: 2}, {Number: 3, Body: big}}, api.ErrBig},
		{2, 4, 8, []api.Page{{Body: strings.Repeat("x", 65537)}}, api.ErrBig},

		// The order of those that apply at the same time.
		{2, 4, 0, make([]api.Page, 4), api.ErrArg},
		{2, 4, top + 1, many(4), api.ErrArg},
		{2, 4, top + 1, []api.Page{{Body: big}}, api.ErrArg},
		{2, 4, 8, append(many(3), api.Page{Number: 1}), api.ErrBatch},
		{2, 4, 8, append(many(3), api.Page{Number: 99, Body: big}), api.ErrBatch},
		{2, 4, 8, []api.Page{{Number: 5, Body: big}, {Number: 5}}, api.ErrArg},
		{2, 9, 8, many(200), api.ErrArg},
		{-1, 4, 0, []api.Page{{Body: big}}, api.ErrArg},
	} {
		s := &spy{Device: blank(t, 8), refuse: -1}
		if e := journal.Put(s, c.first, c.count, c.serial, c.l); e != c.want {
			t.Errorf("row %d: %v, want %v", i, e, c.want)
		}
		if len(s.asked) != 0 {
			t.Errorf("row %d: %q", i, s.asked)
		}
	}
	if e := journal.Put(blank(t, 4096), 0, 4096, 8, many(199)); e != api.ErrBatch {
		t.Errorf("199 pages: %v", e)
	}
}

// nowhere are firsts and counts that are no journal of eight pages.
func nowhere() [][2]int {
	return [][2]int{
		{-1, 4}, {-1, 1}, {math.MinInt, 4}, {math.MinInt, math.MinInt}, {math.MinInt, math.MaxInt}, {2, 0}, {2, -1}, {2, math.MinInt},
		{8, 0}, {0, 0}, {5, 4}, {8, 1}, {7, 2}, {0, 9}, {9, 1}, {math.MaxInt, 1}, {1, math.MaxInt}, {math.MaxInt, math.MaxInt},
		{math.MaxInt - 3, 4}, {math.MaxInt - 2, 4}, {math.MaxInt32, 1}, {1 << 32, 1}, {9, -1}, {-4, 8}, {12, -4},
	}
}

// P6.2, P6.3: places that are no journal, and no device; nothing but Pages is asked, nothing told beside the error.
func TestNoSuchJournal(t *testing.T) {
	for _, c := range nowhere() {
		s := &spy{Device: blank(t, 8), refuse: -1}
		if e := journal.Put(s, c[0], c[1], 8, nil); e != api.ErrArg {
			t.Errorf("Put(first %d, count %d): %v", c[0], c[1], e)
		}
		if f, e := journal.Scan(s, c[0], c[1]); e != api.ErrArg || !same(f, journal.Found{}) {
			t.Errorf("Scan(first %d, count %d): %+v, %v", c[0], c[1], f, e)
		}
		if len(s.asked) != 0 {
			t.Errorf("first %d, count %d: %q", c[0], c[1], s.asked)
		}
		if e := journal.Put(nil, c[0], c[1], 0, many(300)); e != api.ErrNil {
			t.Errorf("Put without a device: %v", e)
		}
		if f, e := journal.Scan(nil, c[0], c[1]); e != api.ErrNil || !same(f, journal.Found{}) {
			t.Errorf("Scan without a device: %+v, %v", f, e)
		}
	}
	// A disk that was made by nobody has no pages, and so no journal.
	for _, d := range []*disk.Disk{nil, {}} {
		if e := journal.Put(d, 0, 1, 1, nil); e != api.ErrArg {
			t.Errorf("Put on a disk without pages: %v", e)
		}
		if _, e := journal.Scan(d, 0, 1); e != api.ErrArg {
			t.Errorf("Scan of a disk without pages: %v", e)
		}
	}
}

// R3, P6.2: the list is neither changed nor kept, with the room behind it; the pages' own Serials are not looked at.
func TestPutLeavesItsList(t *testing.T) {
	room := many(6)
	kept := slices.Clone(room)
	d := blank(t, 8)
	mustPut(t, d, 2, 4, 7, room[:3])
	if !slices.Equal(room, kept) {
		t.Error("Put changes its list")
	}
	clear(room)
	wantFound(t, "behind it", d, 2, 4, all(7, 7, kept[:3]))
}

// The chapter's examples, one behind the other on one disk.
func TestExamples(t *testing.T) {
	d := blank(t, 8)
	wantFound(t, "a new disk", d, 2, 4, none(0))
	mustPut(t, d, 2, 4, 7, two())
	wantFound(t, "serial 7", d, 2, 4, all(7, 7, two()))
	lies := d.Durable()
	one := []api.Page{{Kind: 1, Number: 1, Body: "x"}}
	for _, keeps := range []bool{true, false} {
		d, e := disk.Load(lies)
		if e != api.OK {
			t.Fatal(e)
		}
		d.Fuse(1)
		if e := journal.Put(d, 2, 4, 8, one); e != api.ErrPower {
			t.Errorf("Put with a fuse: %v", e)
		}
		d.Crash(api.Fate{Keep: []bool{keeps}, Torn: -1})
		if keeps {
			wantFound(t, "the slot landed", d, 2, 4, none(8))
		} else {
			wantFound(t, "nothing landed", d, 2, 4, all(7, 7, two()))
		}
		mustPut(t, d, 2, 4, 9, nil)
		wantFound(t, "serial 9", d, 2, 4, all(9, 9, nil))
	}
}
