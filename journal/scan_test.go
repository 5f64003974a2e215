package journal_test

import (
	"fmt"
	"slices"
	"strings"
	"testing"

	"concord/api"
	"concord/disk"
	"concord/journal"
)

// laid is a disk of eight pages on which some lie, from the page 2 on.
func laid(t *testing.T, from2 ...string) *disk.Disk {
	t.Helper()
	lies := blank(t, 8).Durable()
	copy(lies[2:], from2)
	d, e := disk.Load(lies)
	if e != api.OK {
		t.Fatalf("Load: %v", e)
	}
	return d
}

// header is a page 2 of a right sum.
func header(t *testing.T, kind uint8, serial uint64, body string) string {
	t.Helper()
	return string(encoded(t, api.Page{Kind: kind, Number: 2, Serial: serial, Body: body}))
}

// slot is a page of a right sum.
func slot(t *testing.T, kind uint8, number uint32, serial uint64, body string) string {
	t.Helper()
	return string(encoded(t, api.Page{Kind: kind, Number: number, Serial: serial, Body: body}))
}

// P6.3: each page is read, in order, and nothing is written.
func TestScansCalls(t *testing.T) {
	for _, c := range [][2]int{{2, 4}, {0, 8}, {7, 1}, {0, 1}, {3, 5}} {
		d := blank(t, 8)
		mustPut(t, d, c[0], c[1], 7, nil)
		s := &spy{Device: d, refuse: -1}
		wantFound(t, "a batch of none", s, c[0], c[1], all(7, 7, nil))
		var want []string
		for i := range c[1] {
			want = append(want, fmt.Sprint("read ", c[0]+i))
		}
		if !slices.Equal(s.asked, want) {
			t.Errorf("Scan(%d, %d): %q", c[0], c[1], s.asked)
		}
	}
}

// P6.3: the first read that answers an error ends it: that is the answer, and nothing is told beside it.
func TestScanIsRefusedByTheDevice(t *testing.T) {
	d := blank(t, 8)
	mustPut(t, d, 2, 4, 7, two())
	for at := range 4 {
		for _, with := range []api.Errno{api.ErrPower, api.ErrArg, api.ErrNil, -5} {
			s := &spy{Device: d, refuse: at, with: with}
			if f, e := journal.Scan(s, 2, 4); e != with || !same(f, journal.Found{}) {
				t.Errorf("read %d refused with %v: %+v, %v", at, with, f, e)
			}
			if len(s.asked) != at+1 {
				t.Errorf("read %d refused: %q", at, s.asked)
			}
		}
	}
	d.Fuse(0)
	d.Sync()
	if f, e := journal.Scan(d, 2, 4); e != api.ErrPower || !same(f, journal.Found{}) {
		t.Errorf("Scan without power: %+v, %v", f, e)
	}
}

// ended is a page of one byte with these numbers at its ends.
func ended(c byte, head, tail uint64) string {
	number := func(v uint64) string {
		var b []byte
		for i := range 8 {
			b = append(b, byte(v>>(56-8*i)))
		}
		return string(b)
	}
	return number(head) + strings.Repeat(string([]byte{c}), 1008) + number(tail)
}

// P6.3: Top is the greatest number at either end of any of the journal's pages, whatever they are; pages of others do not count.
func TestTop(t *testing.T) {
	for at := range 4 {
		for _, n := range []uint64{1, 255, 256, 1 << 32, top, top + 1, 1 << 63, 1<<64 - 1} {
			for _, c := range []byte{0, 0xff} {
				for _, p := range []string{ended(c, n, 0), ended(c, 0, n), ended(c, n, n), ended(c, n, n-1), ended(c, n-1, n)} {
					pages := []string{ended(9, 0, 1), ended(9, 1, 0), ended(9, 0, 0), ended(9, 1, 1), ended(9, 77, 77)}
					pages[at] = p
					d := laid(t, pages...)
					wantFound(t, fmt.Sprint(n, " at ", at), d, 2, 4, none(n))
				}
			}
		}
	}
}

// P6.3: Top looks at the pages behind those of a batch too, while the batch stays whole whatever they hold.
func TestTopBehindTheBatch(t *testing.T) {
	whole := byHand(t, 2, 7, two())
	d := laid(t, append(whole, ended(0xee, 5, 999), ended(1, 5000, 5000))...)
	wantFound(t, "four pages", d, 2, 4, all(999, 7, two()))
	wantFound(t, "three pages", d, 2, 3, all(7, 7, two()))
	wantFound(t, "five pages", d, 2, 5, all(5000, 7, two()))
	wantFound(t, "two pages: no room for the batch", d, 2, 2, none(7))
	wantFound(t, "another journal", d, 3, 3, none(999))
	d = laid(t, append(whole, slot(t, 67, 5, 7, "a further one"))...)
	wantFound(t, "a slot of the same serial behind", d, 2, 4, all(7, 7, two()))
	long := blank(t, 400)
	mustPut(t, long, 1, 399, 7, many(198))
	for _, n := range []int{200, 399} {
		if e := long.Write(n, []byte(ended(3, uint64(n), 0))); e != api.OK {
			t.Fatal(e)
		}
	}
	wantFound(t, "beyond the room", long, 1, 399, all(399, 7, many(198)))
}

// P6.3: pages that are no whole batch, each but for one thing: headers.
func TestHeadersThatAreNone(t *testing.T) {
	whole := byHand(t, 2, 7, two())
	const listed = "\x02\x01\x00\x00\x00\x05\x02\x00\x00\x00\x09"
	wantFound(t, "unchanged", laid(t, header(t, 74, 7, listed), whole[1], whole[2]), 2, 4, all(7, 7, two()))
	for what, c := range map[string]string{
		"Kind 73":                 header(t, 73, 7, listed),
		"Kind 67":                 header(t, 67, 7, listed),
		"Kind 0":                  header(t, 0, 7, listed),
		"serial 6":                header(t, 74, 6, listed),
		"an empty body":           header(t, 74, 7, ""),
		"three told, two listed":  header(t, 74, 7, "\x03"+listed[1:]),
		"one told, two listed":    header(t, 74, 7, "\x01"+listed[1:]),
		"a byte left":             header(t, 74, 7, listed+"\x00"),
		"a byte missing":          header(t, 74, 7, listed[:10]),
		"a longer form":           header(t, 74, 7, "\x82\x00"+listed[1:]),
		"no end of the number":    header(t, 74, 7, "\x82"),
		"four pages":              header(t, 74, 7, "\x04\x01\x00\x00\x00\x05\x01\x00\x00\x00\x06\x01\x00\x00\x00\x07\x01\x00\x00\x00\x08"),
		"very many pages":         header(t, 74, 7, "\xff\xff\xff\xff\xff\xff\xff\xff\xff\x01"),
		"like Numbers":            header(t, 74, 7, "\x02\x01\x00\x00\x00\x05\x02\x00\x00\x00\x05"),
		"falling Numbers":         header(t, 74, 7, "\x02\x01\x00\x00\x00\x09\x02\x00\x00\x00\x05"),
		"falling in the top byte": header(t, 74, 7, "\x02\x01\x80\x00\x00\x05\x02\x00\x00\x00\x09"),
		"noughts":                 strings.Repeat("\x00", 1024),
		"a turned bit":            whole[0][:25] + "\x04" + whole[0][26:],
		"another Number":          string(encoded(t, api.Page{Kind: 74, Number: 3, Serial: 7, Body: listed})),
	} {
		wantFound(t, "a header: "+what, laid(t, c, whole[1], whole[2]), 2, 4, none(7))
	}
	torn := header(t, 74, 8, listed)[:1016] + whole[0][1016:]
	wantFound(t, "a torn header", laid(t, torn, whole[1], whole[2]), 2, 4, none(8))
}

// P6.3: pages that are no whole batch, each but for one thing: slots.
func TestSlotsThatAreNone(t *testing.T) {
	whole := byHand(t, 2, 7, two())
	for i := 1; i <= 2; i++ {
		number := uint32(2 + i)
		for what, c := range map[string]string{
			"Kind 66":        slot(t, 66, number, 7, "ab"),
			"Kind 74":        slot(t, 74, number, 7, "ab"),
			"the page's own": slot(t, 1, 5, 7, "ab"),
			"serial 6":       slot(t, 67, number, 6, "ab"),
			"serial 0":       slot(t, 67, number, 0, "ab"),
			"another place":  slot(t, 67, number+1, 7, "ab"),
			"noughts":        strings.Repeat("\x00", 1024),
			"a turned bit":   whole[i][:500] + "\x01" + whole[i][501:],
		} {
			pages := slices.Clone(whole)
			pages[i] = c
			wantFound(t, fmt.Sprint("slot ", i-1, ": ", what), laid(t, pages...), 2, 4, none(7))
		}
		pages := slices.Clone(whole)
		pages[i] = slot(t, 67, number, 8, "ab")
		wantFound(t, "a newer slot", laid(t, pages...), 2, 4, none(8))
		pages[i] = slot(t, 67, number, 7, "another body")
		want := all(7, 7, two())
		want.Pages[i-1].Body = "another body"
		wantFound(t, "another body", laid(t, pages...), 2, 4, want)
	}
	wantFound(t, "slots that changed places", laid(t, whole[0], whole[2], whole[1]), 2, 4, none(7))
}

// P6.3: the serials from 1 to MaxSerial are those of batches.
func TestSerialsOfBatches(t *testing.T) {
	for _, serial := range []uint64{1, 2, 255, 1 << 32, top - 1, top} {
		wantFound(t, fmt.Sprint("serial ", serial), laid(t, byHand(t, 2, serial, two())...), 2, 4, all(serial, serial, two()))
	}
	wantFound(t, "serial 0", laid(t, byHand(t, 2, 0, two())...), 2, 4, none(0))
	wantFound(t, "serial 0, no pages", laid(t, byHand(t, 2, 0, nil)...), 2, 4, none(0))
	// One past it no page has; its numbers stand at the ends all the same.
	above := byHand(t, 2, top, nil)[0]
	above = above[:7] + "\x01" + above[8:1023] + "\x01"
	wantFound(t, "a serial above", laid(t, above), 2, 4, none(top+1))
}

// P6.3: a header alone is a batch of no pages, also where there is no slot.
func TestBatchOfNone(t *testing.T) {
	d := laid(t, byHand(t, 2, 9, nil)...)
	for count := 1; count <= 6; count++ {
		wantFound(t, fmt.Sprint("count ", count), d, 2, count, all(9, 9, nil))
	}
}

// short is a device whose reads are of another length than a page, or all of one memory.
type short struct {
	disk.Device
	length int
	memory []byte
}

func (s *short) Read(n int) ([]byte, api.Errno) {
	b, e := s.Device.Read(n)
	if s.length >= 0 && e == api.OK {
		return append(b, 1, 2, 3)[:s.length], e
	}
	copy(s.memory, b)
	return s.memory, e
}

// R1: whatever a device answers, Scan ends; bytes that are no page have no ends.
func TestOddDevices(t *testing.T) {
	d := blank(t, 8)
	mustPut(t, d, 2, 4, 7, two())
	for _, length := range []int{0, 1, 8, 16, 1016, 1023, 1025, 1027} {
		wantFound(t, fmt.Sprint(length, " bytes"), &short{Device: d, length: length}, 2, 4, none(0))
	}
	wantFound(t, "one memory for all", &short{Device: d, length: -1, memory: make([]byte, 1024)}, 2, 4, all(7, 7, two()))
}

// R3: what Scan hands out is new memory, its spare room too.
func TestScanHandsOutNewMemory(t *testing.T) {
	d := blank(t, 8)
	mustPut(t, d, 2, 4, 7, two())
	for range 2 {
		f := mustScan(t, d, 2, 4)
		clear(f.Pages[:cap(f.Pages)])
		wantFound(t, "behind it", d, 2, 4, all(7, 7, two()))
	}
}

// P6.3: what is pending is read as it was written last.
func TestScanOfPending(t *testing.T) {
	d := blank(t, 8)
	for i, p := range byHand(t, 2, 7, two()) {
		wantFound(t, fmt.Sprint(i, " written"), d, 2, 4, none(uint64(7*min(i, 1))))
		if e := d.Write(2+i, []byte(p)); e != api.OK {
			t.Fatal(e)
		}
	}
	wantFound(t, "all written", d, 2, 4, all(7, 7, two()))
	if d.Pending() != 3 {
		t.Errorf("%d are pending", d.Pending())
	}
}
