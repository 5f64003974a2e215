package disk_test

import (
	"math/rand"
	"slices"
	"testing"

	"concord/api"
	"concord/disk"
)

// model is the chapter told in the slowest way: nothing but lists of texts.
type model struct {
	lies    []string
	numbers []int
	pages   []string
	off     bool
	fused   bool
	fuse    int
}

func (m *model) newest(n int) string {
	for i := len(m.numbers) - 1; i >= 0; i-- {
		if m.numbers[i] == n {
			return m.pages[i]
		}
	}
	return m.lies[n]
}

func (m *model) asks() api.Errno {
	if m.fused && m.fuse == 0 {
		m.off = true
		return api.ErrPower
	}
	m.fuse--
	return api.OK
}

func (m *model) write(n int, b string) api.Errno {
	if m.off {
		return api.ErrPower
	}
	if n < 0 || n >= len(m.lies) || len(b) != 1024 {
		return api.ErrArg
	}
	if e := m.asks(); e != api.OK {
		return e
	}
	m.numbers, m.pages = append(m.numbers, n), append(m.pages, b)
	return api.OK
}

func (m *model) sync() api.Errno {
	if m.off {
		return api.ErrPower
	}
	if e := m.asks(); e != api.OK {
		return e
	}
	for n := range m.lies {
		m.lies[n] = m.newest(n)
	}
	m.numbers, m.pages = nil, nil
	return api.OK
}

func (m *model) crash(f api.Fate) {
	for i, n := range m.numbers {
		if i == f.Torn {
			cut := 8 * max(0, min(f.Cut, 128))
			m.lies[n] = m.pages[i][:cut] + m.lies[n][cut:]
		} else if i < len(f.Keep) && f.Keep[i] {
			m.lies[n] = m.pages[i]
		}
	}
	*m = model{lies: m.lies}
}

// noise is a text of some length, of any bytes.
func noise(source *rand.Rand, n int) string {
	b := make([]byte, n)
	source.Read(b)
	return string(b)
}

// someFate is a fate for about so many writes.
func someFate(source *rand.Rand, pending int) api.Fate {
	f := api.Fate{Torn: source.Intn(pending+3) - 1, Cut: source.Intn(134) - 3}
	for range source.Intn(pending + 2) {
		f.Keep = append(f.Keep, source.Intn(3) > 0)
	}
	return f
}

// wantModel holds all that a disk tells against the model.
func wantModel(t *testing.T, d *disk.Disk, m *model) {
	t.Helper()
	if d.Pages() != len(m.lies) || d.Pending() != len(m.numbers) || d.Lit() == m.off || !slices.Equal(d.Durable(), m.lies) {
		t.Fatalf("Pages %d, Pending %d, Lit %v", d.Pages(), d.Pending(), d.Lit())
	}
	for n := range m.lies {
		b, e := d.Read(n)
		if m.off && (e != api.ErrPower || len(b) != 0) {
			t.Fatalf("Read(%d) without power: %v", n, e)
		}
		if !m.off && (e != api.OK || string(b) != m.newest(n)) {
			t.Fatalf("Read(%d): %v, or other bytes", n, e)
		}
	}
}

// P4.2 to P4.7, all together: rows of calls, held against the model.
func TestRowsOfCalls(t *testing.T) {
	source := rand.New(rand.NewSource(4))
	for range 60 {
		m := &model{}
		for range 1 + source.Intn(4) {
			m.lies = append(m.lies, noise(source, 1024))
		}
		d, e := disk.Load(m.lies)
		if e != api.OK {
			t.Fatal(e)
		}
		for range 60 {
			oneCall(t, source, d, m)
			wantModel(t, d, m)
		}
	}
}

// oneCall does one thing to a disk and to its model.
func oneCall(t *testing.T, source *rand.Rand, d *disk.Disk, m *model) {
	t.Helper()
	got, want := api.OK, api.OK
	switch k := source.Intn(20); {
	case k < 11:
		n, b := source.Intn(len(m.lies)), noise(source, 1024)
		got, want = d.Write(n, []byte(b)), m.write(n, b)
	case k < 13:
		n, b := source.Intn(len(m.lies)+2)-1, noise(source, 1022+source.Intn(4))
		got, want = d.Write(n, []byte(b)), m.write(n, b)
	case k < 15:
		got, want = d.Sync(), m.sync()
	case k < 17:
		n := source.Intn(9) - 2
		d.Fuse(n)
		if !m.off {
			m.fused, m.fuse = n >= 0, n
		}
	default:
		f := someFate(source, len(m.numbers))
		d.Crash(f)
		m.crash(f)
	}
	if got != want {
		t.Fatalf("answers %v, want %v", got, want)
	}
}

// pendingDisk is a disk of pages of noise with some writes that are pending; told are the writes by their pages.
func pendingDisk(t *testing.T, source *rand.Rand) (*disk.Disk, [][]string) {
	t.Helper()
	var lies []string
	for range 1 + source.Intn(5) {
		lies = append(lies, noise(source, 1024))
	}
	d, e := disk.Load(lies)
	if e != api.OK {
		t.Fatal(e)
	}
	told := make([][]string, len(lies))
	for range source.Intn(9) {
		n, b := source.Intn(len(lies)), noise(source, 1024)
		if e := d.Write(n, []byte(b)); e != api.OK {
			t.Fatal(e)
		}
		told[n] = append(told[n], b)
	}
	return d, told
}

// P4.9: whatever Crash is handed, what is synced stays; each other word is one that lay there or was laid down there.
func TestSyncedStays(t *testing.T) {
	source := rand.New(rand.NewSource(49))
	for range 400 {
		d, writes := pendingDisk(t, source)
		lay := d.Durable()
		if source.Intn(2) == 0 {
			d.Fuse(0)
			d.Sync()
		}
		d.Crash(someFate(source, d.Pending()))
		for n, page := range d.Durable() {
			if len(writes[n]) == 0 && page != lay[n] {
				t.Fatalf("page %d has changed, and no write of it was pending", n)
			}
			may := append([]string{lay[n]}, writes[n]...)
			for at := 0; at < 1024; at += 8 {
				if !slices.ContainsFunc(may, func(s string) bool { return s[at:at+8] == page[at:at+8] }) {
					t.Fatalf("page %d: the word at %d is nobody's", n, at)
				}
			}
		}
	}
}

// P4.10: a crash that keeps all and tears none leaves what a sync leaves; one that keeps none what the last sync left.
func TestAllOrNothing(t *testing.T) {
	for seed := range int64(200) {
		kept, _ := pendingDisk(t, rand.New(rand.NewSource(seed)))
		synced, _ := pendingDisk(t, rand.New(rand.NewSource(seed)))
		lost, _ := pendingDisk(t, rand.New(rand.NewSource(seed)))
		lay := lost.Durable()
		all := slices.Repeat([]bool{true}, kept.Pending())
		kept.Crash(api.Fate{Keep: all, Torn: -1, Cut: int(seed)})
		sync(t, synced)
		wantLies(t, "all kept", kept, synced.Durable()...)
		lost.Crash(api.Fate{Keep: make([]bool, seed%12), Torn: -1, Cut: int(seed)})
		wantLies(t, "none kept", lost, lay...)
	}
}

// P4.4: many writes may be pending, and each has its number.
func TestManyPending(t *testing.T) {
	const many = 5000
	d := blank(t, api.MaxPages)
	want := slices.Repeat([]string{full(0)}, api.MaxPages)
	keep := make([]bool, many)
	for i := range many {
		put(t, d, i*7%api.MaxPages, byte(i))
		if keep[i] = i%3 == 1; keep[i] {
			want[i*7%api.MaxPages] = full(byte(i))
		}
	}
	wantStands(t, "many", d, many, true)
	d.Crash(api.Fate{Keep: keep, Torn: -1})
	wantLies(t, "many", d, want...)
	wantRead(t, "many", d, want...)
}
