package store_test

import (
	"fmt"
	"math"
	"slices"
	"strings"
	"testing"

	"concord/api"
	"concord/disk"
	"concord/page"
	"concord/store"
)

func wantNoStore(t *testing.T, what string, d disk.Device, journal int, want api.Errno) {
	t.Helper()
	if s, e := store.Open(d, journal); s != nil || e != want {
		t.Errorf("%s: %v, %v; want %v", what, s, e, want)
	}
}

// sized is a device that tells another number of pages.
type sized struct {
	disk.Device
	pages int
}

func (s *sized) Pages() int { return s.pages }

// P7.1: no device, and pages that are not enough, too many, or no journal; nothing but Pages is asked then.
func TestOpenRefuses(t *testing.T) {
	for _, journal := range []int{math.MinInt, -1, 0, 1, 4, math.MaxInt} {
		wantNoStore(t, "no device", nil, journal, api.ErrNil)
	}
	for _, c := range [][2]int{
		{8, 1}, {8, 7}, {8, 8}, {8, 9}, {8, 0}, {8, -1}, {8, math.MinInt}, {8, math.MaxInt}, {8, math.MaxInt - 1}, {3, 2}, {2, 2}, {1, 2}, {1, 1},
		{0, 2}, {-1, 2}, {math.MinInt, 2}, {math.MinInt, math.MaxInt}, {math.MinInt + 1, math.MinInt}, {4097, 4}, {4097, 4095},
		{math.MaxInt, 2}, {math.MaxInt, math.MaxInt - 2}, {4096, 4095}, {4096, 4096}, {4096, 1}, {1 << 32, 4},
	} {
		s := watched(&sized{blank(t, 8), c[0]})
		wantNoStore(t, fmt.Sprint(c), s, c[1], api.ErrArg)
		if len(s.asked) != 0 {
			t.Errorf("%d pages, journal %d: %q", c[0], c[1], s.asked)
		}
	}
	for _, d := range []*disk.Disk{nil, {}} {
		wantNoStore(t, "a disk without pages", d, 4, api.ErrArg)
	}
}

// P7.1: the least and the greatest that there may be; Pages is what is behind the journal.
func TestOpenAtTheEdges(t *testing.T) {
	for _, c := range [][2]int{{4, 2}, {5, 2}, {5, 3}, {8, 2}, {8, 6}, {96, 24}, {4096, 2}, {4096, 24}, {4096, 4094}, {300, 250}} {
		d := blank(t, c[0])
		wantStore(t, fmt.Sprint(c), mustOpen(t, d, c[1]), bare(c[0]-c[1]), 1)
		wantStore(t, fmt.Sprint(c, " again"), mustOpen(t, d, c[1]), bare(c[0]-c[1]), 1)
	}
}

// P7.1: how a new store lies on the device, page by page, and that all is synced.
func TestLayOut(t *testing.T) {
	for _, c := range [][2]int{{8, 4}, {4, 2}, {21, 4}, {4096, 2}} {
		d := blank(t, c[0])
		mustOpen(t, d, c[1])
		want := blank(t, c[0]).Durable()
		body := headBody(c[0]-c[1], [8]uint32{})
		copy(want, batchByHand(t, 1, api.Page{Kind: 83, Body: body}))
		want[c[1]] = encoded(t, api.Page{Kind: 83, Serial: 1, Body: body})
		if d.Pending() != 0 || !slices.Equal(d.Durable(), want) {
			t.Errorf("%d pages, journal %d: another disk than the chapter tells", c[0], c[1])
		}
	}
}

// P7.1: a new store's serial is above all that stood in the journal.
func TestLayOutAboveTop(t *testing.T) {
	for _, n := range []uint64{0, 1, 255, 1 << 32, top - 2} {
		for at := range 4 {
			pages := slices.Repeat([]string{ended(7, 0, 0)}, 4)
			pages[at] = ended(7, 0, n)
			s := mustOpen(t, byHand(t, pages), 4)
			wantStore(t, fmt.Sprint(n, " at ", at), s, bare(4), n+1)
			b := s.Begin()
			mustBe(t, "SetRoot", b.SetRoot(0, 0), api.OK)
			mustBe(t, "Commit", b.Commit(), api.OK)
			if s.Serial() != n+2 {
				t.Errorf("the batch behind it has the Serial %d", s.Serial())
			}
		}
	}
}

// openings are disks of each sort, with what Open asks of them, in order.
func openings(t *testing.T) map[string]struct {
	lies  []string
	calls []string
} {
	t.Helper()
	type opening = struct {
		lies  []string
		calls []string
	}
	reads := []string{"read 0", "read 1", "read 2", "read 3"}
	d, _ := second(t)
	whole := d.Durable()
	without := d.Durable()
	without[0] = blank(t, 1).Durable()[0]
	none := byHand(t, batchByHand(t, 9), whole[4:]...).Durable()
	return map[string]opening{
		"new":             {blank(t, 8).Durable(), append(slices.Clone(reads), "read 4", "write 1", "write 0", "sync", "write 4", "sync")},
		"a batch":         {whole, append(slices.Clone(reads), "write 4", "write 5", "write 6", "sync", "read 4")},
		"no batch":        {without, append(slices.Clone(reads), "read 4")},
		"a batch of none": {none, append(slices.Clone(reads), "sync", "read 4")},
	}
}

// P7.1: just these calls of the device, in this order; the number of pages is asked once.
func TestOpensCalls(t *testing.T) {
	for what, o := range openings(t) {
		s := watched(load(t, o.lies))
		mustOpen(t, s, 4)
		if !slices.Equal(s.asked, o.calls) || s.counts != 1 {
			t.Errorf("%s: %q, and %d times Pages", what, s.asked, s.counts)
		}
	}
}

// P7.1: what the device answers that is not OK is the answer at once.
func TestOpenIsRefusedByTheDevice(t *testing.T) {
	for what, o := range openings(t) {
		for at := range o.calls {
			for _, with := range []api.Errno{api.ErrPower, api.ErrArg, api.ErrNil, api.ErrBlank, -5} {
				s := watched(load(t, o.lies))
				s.refuse, s.with = at, with
				wantNoStore(t, fmt.Sprint(what, ": ", o.calls[at], " refused"), s, 4, with)
				if !slices.Equal(s.asked, o.calls[:at+1]) {
					t.Errorf("%s: call %d refused: %q", what, at, s.asked)
				}
			}
		}
	}
	d, _ := second(t)
	d.Fuse(0)
	d.Sync()
	wantNoStore(t, "no power", d, 4, api.ErrPower)
}

// P7.1: a whole batch is written home, page by page with its serial, and synced, whatever lay there.
func TestOpenWritesTheBatchHome(t *testing.T) {
	body := headBody(4, [8]uint32{7: 3}, 1, 3)
	l := []api.Page{{Kind: 83, Body: body}, {Kind: 0, Number: 1, Body: strings.Repeat("\xff", 996)}, {Kind: 255, Number: 3}}
	m := model{4, [8]uint32{7: 3}, map[uint32]content{1: {0, l[1].Body}, 3: {255, ""}}}
	for what, home := range map[string][]string{
		"blank":      nil,
		"torn":       {ended(1, 50, 49), ended(1, 50, 49), ended(2, 3, 3), ended(1, 50, 49)},
		"older ones": {encoded(t, api.Page{Kind: 83, Serial: 49, Body: headBody(4, [8]uint32{})}), encoded(t, api.Page{Number: 1, Serial: 2})},
		"newer ones": {encoded(t, api.Page{Kind: 83, Serial: 99, Body: headBody(4, [8]uint32{2}, 2)}), encoded(t, api.Page{Number: 1, Serial: 99})},
	} {
		d := byHand(t, batchByHand(t, 50, l...), home...)
		lay := d.Durable()
		wantStore(t, what, mustOpen(t, d, 4), m, 50)
		for _, p := range l {
			p.Serial = 50
			lay[4+p.Number] = encoded(t, p)
		}
		if d.Pending() != 0 || !slices.Equal(d.Durable(), lay) {
			t.Errorf("%s: another disk than the chapter tells", what)
		}
	}
}

// P7.1: a whole batch of which a Number is not below Pages: nothing is written.
func TestOpenOfABatchElsewhere(t *testing.T) {
	right := encoded(t, api.Page{Kind: 83, Serial: 3, Body: headBody(4, [8]uint32{})})
	for _, n := range []uint32{4, 5, 8, 1 << 31, 1<<32 - 4, 1<<32 - 1} {
		s := watched(byHand(t, batchByHand(t, 9, api.Page{Kind: 83, Body: headBody(4, [8]uint32{})}, api.Page{Number: n}), right))
		wantNoStore(t, fmt.Sprint("a page ", n), s, 4, api.ErrBroken)
		if len(s.asked) != 4 {
			t.Errorf("a page %d: %q", n, s.asked)
		}
	}
	d := byHand(t, batchByHand(t, 9, api.Page{Kind: 5, Number: 3, Body: "x"}), right)
	wantStore(t, "a page 3, no head", mustOpen(t, d, 4), bare(4), 3)
	if p, e := page.Decode([]byte(d.Durable()[7]), 3); e != api.OK || p != (api.Page{Kind: 5, Number: 3, Serial: 9, Body: "x"}) {
		t.Errorf("the page 3: %v, %v", p, e)
	}
}

// P7.1: a blank head is laid out only where there is no whole batch.
func TestBlankHeadBesideABatch(t *testing.T) {
	wantNoStore(t, "a batch of none", byHand(t, batchByHand(t, 9)), 4, api.ErrBroken)
	wantNoStore(t, "a batch of the page 2", byHand(t, batchByHand(t, 9, api.Page{Number: 2})), 4, api.ErrBroken)
	torn := batchByHand(t, 9, api.Page{Number: 2})
	torn[1] = ended(0, 0, 0)
	wantStore(t, "a batch that is not whole", mustOpen(t, byHand(t, torn), 4), bare(4), 10)
	d := byHand(t, nil, "", encoded(t, api.Page{Number: 1, Serial: 5000, Body: "x"}))
	wantStore(t, "a page behind a blank head", mustOpen(t, d, 4), bare(4), 1)
}

// heads are pages 0 of a store of 12 pages, each but for one thing, and whether they are right.
func heads(t *testing.T) map[string]struct {
	page  string
	right bool
} {
	t.Helper()
	type row = struct {
		page  string
		right bool
	}
	body := headBody(12, [8]uint32{1, 11, 1}, 1, 5, 11)
	of := func(kind uint8, number uint32, body string) string {
		return encoded(t, api.Page{Kind: kind, Number: number, Serial: 7, Body: body})
	}
	whole := of(83, 0, body)
	return map[string]row{
		"right":               {whole, true},
		"nothing in use":      {of(83, 0, headBody(12, [8]uint32{})), true},
		"all in use":          {of(83, 0, headBody(12, [8]uint32{7: 11}, 1, 2, 3, 4, 5, 6, 7, 8, 9, 10, 11)), true},
		"Kind 82":             {of(82, 0, body), false},
		"Kind 0":              {of(0, 0, body), false},
		"Number 1":            {of(83, 1, body), false},
		"Number of its place": {of(83, 4, body), false},
		"11 pages":            {of(83, 0, "\x00\x00\x00\x0b"+body[4:]), false},
		"13 pages":            {of(83, 0, headBody(13, [8]uint32{1, 11, 1}, 1, 5, 11)), false},
		"very many pages":     {of(83, 0, "\x01\x00\x00\x0c"+body[4:]), false},
		"no body":             {of(83, 0, ""), false},
		"a byte missing":      {of(83, 0, body[:len(body)-1]), false},
		"no set":              {of(83, 0, body[:36]), false},
		"seven roots":         {of(83, 0, body[:32]), false},
		"a byte more":         {of(83, 0, body+"\x00"), false},
		"a bit of no page":    {of(83, 0, body[:37]+"\x18"), false},
		"the head in use":     {of(83, 0, headBody(12, [8]uint32{1, 11, 1}, 0, 1, 5, 11)), false},
		"a root that is free": {of(83, 0, headBody(12, [8]uint32{1, 11, 1}, 1, 5)), false},
		"the last root free":  {of(83, 0, headBody(12, [8]uint32{7: 2}, 1, 5)), false},
		"a root of 12":        {of(83, 0, headBody(12, [8]uint32{3: 12}, 1, 5)), false},
		"a root of 2^32 - 1":  {of(83, 0, headBody(12, [8]uint32{3: 1<<32 - 1}, 1, 5)), false},
		"a turned bit":        {whole[:30] + "\x01" + whole[31:], false},
		"torn":                {whole[:512] + strings.Repeat("\x00", 512), false},
		"a byte":              {strings.Repeat("\x00", 500) + "\x01" + strings.Repeat("\x00", 523), false},
	}
}

// P7.1: a head that lies there, right or not.
func TestHeads(t *testing.T) {
	for what, c := range heads(t) {
		lies := blank(t, 16).Durable()
		lies[4] = c.page
		d := load(t, lies)
		s, e := store.Open(d, 4)
		if c.right != (s != nil) || c.right && e != api.OK || !c.right && e != api.ErrBroken {
			t.Errorf("%s: %v, %v", what, s, e)
		}
		if !slices.Equal(d.Durable(), lies) || d.Pending() != 0 {
			t.Errorf("%s: something was written", what)
		}
	}
	s := mustOpen(t, byHand(t, nil, encoded(t, api.Page{Kind: 83, Serial: 7, Body: headBody(4, [8]uint32{2, 0, 3}, 2, 3)})), 4)
	if s.Serial() != 7 || s.Free() != 1 || s.Root(0) != 2 || s.Root(1) != 0 || s.Root(2) != 3 || s.Pages() != 4 {
		t.Errorf("a head by hand: Serial %d, Free %d, Roots %d %d %d", s.Serial(), s.Free(), s.Root(0), s.Root(1), s.Root(2))
	}
}

// P7.1: a head that comes out of the journal, right or not.
func TestHeadsInTheJournal(t *testing.T) {
	right := encoded(t, api.Page{Kind: 83, Serial: 3, Body: headBody(4, [8]uint32{})})
	for what, c := range map[string]api.Page{
		"Kind 82":     {Kind: 82, Body: headBody(4, [8]uint32{})},
		"five pages":  {Kind: 83, Body: headBody(5, [8]uint32{})},
		"a free root": {Kind: 83, Body: headBody(4, [8]uint32{1})},
	} {
		wantNoStore(t, what, byHand(t, batchByHand(t, 9, c), right), 4, api.ErrBroken)
	}
	c := api.Page{Kind: 83, Body: headBody(4, [8]uint32{1}, 1)}
	if s := mustOpen(t, byHand(t, batchByHand(t, 9, c), ended(9, 9, 9)), 4); s.Serial() != 9 || s.Root(0) != 1 {
		t.Errorf("a right one: Serial %d, Root %d", s.Serial(), s.Root(0))
	}
}

// P7.1: the next serial is above the head's and above Top, and neither may be at its end.
func TestSerials(t *testing.T) {
	head := func(serial uint64) string {
		return encoded(t, api.Page{Kind: 83, Serial: serial, Body: headBody(4, [8]uint32{})})
	}
	for _, c := range []struct{ head, top, next uint64 }{
		{7, 0, 8}, {7, 7, 8}, {7, 6, 8}, {7, 9, 10}, {0, 0, 1}, {0, 5, 6}, {1 << 40, 3, 1<<40 + 1}, {3, 1 << 40, 1<<40 + 1},
		{top - 1, 0, top}, {3, top - 1, top}, {top - 1, top - 1, top},
	} {
		s := mustOpen(t, byHand(t, []string{"", ended(1, 0, c.top)}, head(c.head)), 4)
		if s.Serial() != c.head {
			t.Errorf("%v: Serial %d", c, s.Serial())
		}
		b := s.Begin()
		mustAlloc(t, b, 1, "x", 1)
		mustBe(t, "Commit", b.Commit(), api.OK)
		if p, e := s.Read(1); s.Serial() != c.next || e != api.OK || p.Serial != c.next {
			t.Errorf("%v: the next one is %d, its page's %d", c, s.Serial(), p.Serial)
		}
	}
	for _, c := range [][2]uint64{{top, 0}, {top, top}, {top, top - 1}, {7, top}, {7, top + 1}, {7, 1 << 63}, {7, 1<<64 - 1}} {
		wantNoStore(t, fmt.Sprint(c), byHand(t, []string{ended(1, c[1], 0)}, head(c[0])), 4, api.ErrBroken)
	}
}

// P7.1: a new store where Top is at its end: nothing is written; one below that it is laid out, and is at its end then.
func TestLayOutAtTheEnd(t *testing.T) {
	for _, n := range []uint64{top, top + 1, 1<<64 - 1} {
		s := watched(byHand(t, []string{ended(1, 0, n)}))
		wantNoStore(t, fmt.Sprint(n), s, 4, api.ErrBroken)
		if len(s.asked) != 5 {
			t.Errorf("%d: %q", n, s.asked)
		}
	}
	d := byHand(t, []string{"", "", ended(1, 0, top-1)})
	for range 2 {
		wantNoStore(t, "one below", d, 4, api.ErrBroken)
		if p, e := page.Decode([]byte(d.Durable()[4]), 0); e != api.OK || p.Serial != top || p.Kind != 83 {
			t.Errorf("one below: %v, %v", p, e)
		}
	}
}

// P7.1: a batch of the greatest serial is written home ahead of the refusal.
func TestBatchAtTheEnd(t *testing.T) {
	d := byHand(t, batchByHand(t, top, api.Page{Kind: 83, Body: headBody(4, [8]uint32{})}))
	wantNoStore(t, "a batch at the end", d, 4, api.ErrBroken)
	if p, e := page.Decode([]byte(d.Durable()[4]), 0); e != api.OK || p.Serial != top {
		t.Errorf("its head: %v, %v", p, e)
	}
}

// short is a device whose reads are of another length than a page.
type short struct {
	disk.Device
	length int
}

func (s *short) Read(n int) ([]byte, api.Errno) {
	b, e := s.Device.Read(n)
	return append(b, 1, 2, 3)[:min(s.length, len(b)+3)], e
}

// R1, P7.1: bytes that are no page are no head.
func TestOpenOfOddDevices(t *testing.T) {
	for _, length := range []int{0, 1, 1023, 1025, 1027} {
		d, _ := second(t)
		wantNoStore(t, fmt.Sprint(length, " bytes"), &short{d, length}, 4, api.ErrBroken)
		wantNoStore(t, fmt.Sprint(length, " noughts"), &short{blank(t, 8), length}, 4, api.ErrBroken)
	}
}
