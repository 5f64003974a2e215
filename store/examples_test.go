package store_test

import (
	"testing"

	"concord/api"
	"concord/page"
	"concord/store"
)

// The chapter's first example.
func TestFirstExample(t *testing.T) {
	d := blank(t, 8)
	wantNoStore(t, "Open(d, 1)", d, 1, api.ErrArg)
	wantNoStore(t, "Open(d, 7)", d, 7, api.ErrArg)
	wantNoStore(t, "no device", nil, 4, api.ErrNil)
	wantStore(t, "Open(d, 4)", mustOpen(t, d, 4), bare(4), 1)
	if p, e := page.Decode([]byte(d.Durable()[4]), 0); e != api.OK || p.Kind != 83 || p.Serial != 1 {
		t.Errorf("the head: %v, %v", p, e)
	}
}

// The second one, and the third behind it.
func TestSecondAndThirdExample(t *testing.T) {
	_, s := fresh(t)
	b := s.Begin()
	mustAlloc(t, b, 1, "a", 1)
	mustAlloc(t, b, 2, "b", 2)
	if b.Size() != 3 {
		t.Errorf("Size %d", b.Size())
	}
	mustBe(t, "SetRoot(0, 1)", b.SetRoot(0, 1), api.OK)
	mustBe(t, "SetRoot(8, 1)", b.SetRoot(8, 1), api.ErrArg)
	mustBe(t, "SetRoot(1, 3)", b.SetRoot(1, 3), api.ErrFree)
	mustBe(t, "Release(1)", b.Release(1), api.ErrArg)
	mustBe(t, "Commit", b.Commit(), api.OK)
	wantStore(t, "the second", s, secondModel(), 2)
	wantPage(t, s, api.Page{Kind: 1, Number: 1, Serial: 2, Body: "a"})

	b = s.Begin()
	mustBe(t, "Write", b.Write(1, 1, "A"), api.OK)
	mustBe(t, "Write", b.Write(2, 2, "B"), api.OK)
	mustAlloc(t, b, 3, "c", 3)
	if b.Size() != 4 {
		t.Errorf("Size %d", b.Size())
	}
	mustBe(t, "Commit", b.Commit(), api.ErrBatch)
	mustBe(t, "Release", b.Release(3), api.OK)
	if b.Size() != 3 {
		t.Errorf("Size %d", b.Size())
	}
	wantPage(t, b, api.Page{Kind: 1, Number: 1, Body: "A"})
	mustBe(t, "Commit", b.Commit(), api.OK)
	wantStore(t, "the third", s, capitals(), 3)
}

// capitals is what the third example leaves.
func capitals() model {
	return model{4, [8]uint32{1}, map[uint32]content{1: {1, "A"}, 2: {2, "B"}}}
}

// The fourth one.
func TestFourthExample(t *testing.T) {
	for _, keeps := range []bool{false, true} {
		d, s := second(t)
		b := s.Begin()
		b.Write(1, 1, "A")
		b.Write(2, 2, "B")
		mustBe(t, "Commit", b.Commit(), api.OK)
		b = s.Begin()
		mustBe(t, "Write", b.Write(1, 1, "x"), api.OK)
		d.Fuse(3)
		mustBe(t, "Commit", b.Commit(), api.ErrPower)
		if _, e := s.Read(1); e != api.ErrDone {
			t.Errorf("Read of a dead store: %v", e)
		}
		d.Crash(api.Fate{Keep: []bool{keeps, keeps, keeps}, Torn: -1})
		m, serial := capitals(), uint64(3)
		if keeps {
			m.used[1], serial = content{1, "x"}, 4
		}
		wantStore(t, "opened anew", mustOpen(t, d, 4), m, serial)
	}
}

// The fifth and the sixth one.
func TestFifthAndSixthExample(t *testing.T) {
	_, s := second(t)
	b := s.Begin()
	c := s.Begin()
	if n, e := b.Alloc(1, ""); n != 0 || e != api.ErrDone {
		t.Errorf("Alloc of the first one: %d, %v", n, e)
	}
	c.Drop()
	mustBe(t, "Commit behind Drop", c.Commit(), api.ErrDone)
	mustBe(t, "Commit of nothing", s.Begin().Commit(), api.OK)
	wantStore(t, "behind it", s, secondModel(), 2)

	lies := blank(t, 8).Durable()
	lies[4] = lies[4][:1023] + "\x07"
	if s, e := store.Open(load(t, lies), 4); s != nil || e != api.ErrBroken {
		t.Errorf("a byte that is not 0: %v, %v", s, e)
	}
}
