package store_test

import (
	"fmt"
	"slices"
	"testing"

	"concord/api"
	"concord/disk"
	"concord/page"
	"concord/store"
)

const top = uint64(1) << 62 // the greatest serial

// spy is a device that notes what it is asked, and may refuse one of the acts.
type spy struct {
	disk.Device
	asked  []string
	counts int // how often Pages was asked
	refuse int // which of the acts but Pages; none, if below 0
	with   api.Errno
}

func watched(d disk.Device) *spy { return &spy{Device: d, refuse: -1} }

func (s *spy) refuses(what string) bool {
	s.asked = append(s.asked, what)
	return s.refuse == len(s.asked)-1
}

func (s *spy) Pages() int {
	s.counts++
	return s.Device.Pages()
}

func (s *spy) Read(n int) ([]byte, api.Errno) {
	if s.refuses(fmt.Sprint("read ", n)) {
		return []byte("what a refusal tells beside it"), s.with
	}
	return s.Device.Read(n)
}

func (s *spy) Write(n int, b []byte) api.Errno {
	if s.refuses(fmt.Sprint("write ", n)) {
		return s.with
	}
	return s.Device.Write(n, b)
}

func (s *spy) Sync() api.Errno {
	if s.refuses("sync") {
		return s.with
	}
	return s.Device.Sync()
}

func blank(t *testing.T, pages int) *disk.Disk {
	t.Helper()
	d, e := disk.New(pages)
	if e != api.OK {
		t.Fatalf("New(%d): %v", pages, e)
	}
	return d
}

func load(t *testing.T, lies []string) *disk.Disk {
	t.Helper()
	d, e := disk.Load(lies)
	if e != api.OK {
		t.Fatalf("Load: %v", e)
	}
	return d
}

func mustOpen(t *testing.T, d disk.Device, journal int) *store.Store {
	t.Helper()
	s, e := store.Open(d, journal)
	if e != api.OK || s == nil {
		t.Fatalf("Open: %v, %v", s, e)
	}
	return s
}

func mustAlloc(t *testing.T, b *store.Batch, kind uint8, body string, want uint32) {
	t.Helper()
	if n, e := b.Alloc(kind, body); n != want || e != api.OK {
		t.Fatalf("Alloc is %d, %v; want %d", n, e, want)
	}
}

func mustBe(t *testing.T, what string, got, want api.Errno) {
	t.Helper()
	if got != want {
		t.Fatalf("%s: %v, want %v", what, got, want)
	}
}

// fresh is a store on a new disk of 8 pages, of which 4 are the journal's.
func fresh(t *testing.T) (*disk.Disk, *store.Store) {
	t.Helper()
	d := blank(t, 8)
	return d, mustOpen(t, d, 4)
}

// second is a store behind the chapter's second example: the pages 1 ("a", the root 0) and 2 ("b") are in use.
func second(t *testing.T) (*disk.Disk, *store.Store) {
	t.Helper()
	d, s := fresh(t)
	b := s.Begin()
	mustAlloc(t, b, 1, "a", 1)
	mustAlloc(t, b, 2, "b", 2)
	mustBe(t, "SetRoot", b.SetRoot(0, 1), api.OK)
	mustBe(t, "Commit", b.Commit(), api.OK)
	return d, s
}

// content is what a batch gives to a page.
type content struct {
	kind uint8
	body string
}

// model is what a store should hold.
type model struct {
	pages int
	roots [8]uint32
	used  map[uint32]content
}

func bare(pages int) model { return model{pages: pages, used: map[uint32]content{}} }

// secondModel is what the chapter's second example leaves.
func secondModel() model {
	return model{4, [8]uint32{1}, map[uint32]content{1: {1, "a"}, 2: {2, "b"}}}
}

func (m model) copied() model {
	used := map[uint32]content{}
	for n, c := range m.used {
		used[n] = c
	}
	m.used = used
	return m
}

// refusal is why a page cannot be read.
func (m model) refusal(n uint32) api.Errno {
	if n == 0 || int64(n) >= int64(m.pages) {
		return api.ErrArg
	}
	if _, ok := m.used[n]; !ok {
		return api.ErrFree
	}
	return api.OK
}

// numbers are all pages, and some that there are not.
func (m model) numbers() []uint32 {
	l := []uint32{1 << 31, 1<<32 - 1}
	for n := range m.pages + 3 {
		l = append(l, uint32(n))
	}
	return l
}

// reader is a store, or a batch.
type reader interface {
	Read(n uint32) (api.Page, api.Errno)
	Root(i int) uint32
}

// unlike says at what a store, or a batch, is not as the model; which serials its pages may have is asked of serialIs.
func (m model) unlike(r reader, serialIs func(n uint32, serial uint64) bool) string {
	for _, n := range m.numbers() {
		p, e := r.Read(n)
		if e != m.refusal(n) {
			return fmt.Sprintf("Read(%d): %v, want %v", n, e, m.refusal(n))
		}
		if e != api.OK {
			if p != (api.Page{}) {
				return fmt.Sprintf("Read(%d): %v beside %v", n, p, e)
			}
			continue
		}
		if c := m.used[n]; p.Kind != c.kind || p.Body != c.body || p.Number != n || !serialIs(n, p.Serial) {
			return fmt.Sprintf("Read(%d): %v, want %v", n, p, c)
		}
	}
	for i := range 8 {
		if r.Root(i) != m.roots[i] {
			return fmt.Sprintf("Root(%d) is %d, want %d", i, r.Root(i), m.roots[i])
		}
	}
	return ""
}

// unlikeStore says at what a store is not as the model.
func (m model) unlikeStore(s *store.Store) string {
	if s.Pages() != m.pages || s.Free() != m.pages-1-len(m.used) {
		return fmt.Sprintf("%d pages, %d free; want %d, %d", s.Pages(), s.Free(), m.pages, m.pages-1-len(m.used))
	}
	return m.unlike(s, func(_ uint32, serial uint64) bool { return serial >= 1 && serial <= s.Serial() })
}

func wantStore(t *testing.T, what string, s *store.Store, m model, serial uint64) {
	t.Helper()
	if told := m.unlikeStore(s); told != "" {
		t.Errorf("%s: %s", what, told)
	}
	if s.Serial() != serial {
		t.Errorf("%s: Serial is %d, want %d", what, s.Serial(), serial)
	}
}

// fixed is a number in four bytes.
func fixed(n uint32) string {
	return string([]byte{byte(n >> 24), byte(n >> 16), byte(n >> 8), byte(n)})
}

// headBody is a head's body, byte by byte as the chapter tells it.
func headBody(pages int, roots [8]uint32, used ...int) string {
	told := fixed(uint32(pages))
	for _, n := range roots {
		told += fixed(n)
	}
	set := make([]byte, (pages+7)/8)
	for _, n := range used {
		set[n/8] |= 1 << (n % 8)
	}
	return told + string(set)
}

// headBody is the body of the model's head.
func (m model) headBody() string {
	var used []int
	for n := range m.used {
		used = append(used, int(n))
	}
	return headBody(m.pages, m.roots, used...)
}

func encoded(t *testing.T, p api.Page) string {
	t.Helper()
	b, e := page.Encode(p)
	if e != api.OK {
		t.Fatalf("Encode: %v", e)
	}
	return string(b)
}

// batchByHand are the journal's header and slots of a batch, as chapter 6 tells them.
func batchByHand(t *testing.T, serial uint64, l ...api.Page) []string {
	t.Helper()
	body := string([]byte{byte(len(l))})
	pages := []string{""}
	for i, p := range l {
		body += string([]byte{p.Kind}) + fixed(p.Number)
		pages = append(pages, encoded(t, api.Page{Kind: 67, Number: uint32(1 + i), Serial: serial, Body: p.Body}))
	}
	pages[0] = encoded(t, api.Page{Kind: 74, Serial: serial, Body: body})
	return pages
}

// byHand is a disk of 8 pages: some in the journal's four, some behind them; noughts, where no bytes are told.
func byHand(t *testing.T, journal []string, home ...string) *disk.Disk {
	t.Helper()
	lies := make([]string, 8)
	copy(lies, journal)
	copy(lies[4:], home)
	for n := range lies {
		if lies[n] == "" {
			lies[n] = ended(0, 0, 0)
		}
	}
	return load(t, lies)
}

// ended is a page of one byte with these numbers at its ends.
func ended(c byte, head, tail uint64) string {
	b := slices.Repeat([]byte{c}, 1024)
	for i := range 8 {
		b[i], b[1016+i] = byte(head>>(56-8*i)), byte(tail>>(56-8*i))
	}
	return string(b)
}
