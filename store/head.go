package store

import (
	"concord/api"
	"concord/bitmap"
	"concord/wire"
)

const (
	headKind    = 83
	rootCount   = 8
	numberBytes = 4
)

// head is what the page 0 tells. Its set is changed by nobody but the batch that copied it.
type head struct {
	roots [rootCount]uint32
	used  *bitmap.Set // the pages in use; its Len is Pages
}

// bare is the head of a store in which nothing is in use.
func bare(pages int) head {
	used, _ := bitmap.New(pages)
	return head{used: used}
}

// headOf is the head that a page is, if it is right.
func headOf(p api.Page, pages int) (head, bool) {
	var h head
	r := wire.NewReader(p.Body)
	told := r.Fixed(numberBytes)
	for i := range h.roots {
		h.roots[i] = uint32(r.Fixed(numberBytes))
	}
	set := r.Raw(r.Left())
	if p.Kind != headKind || r.End() != api.OK || told != uint64(pages) {
		return head{}, false
	}
	used, e := bitmap.From(pages, set)
	if e != api.OK || used.Has(0) {
		return head{}, false
	}
	h.used = used
	for _, n := range h.roots {
		if !h.mayBeRoot(n) {
			return head{}, false
		}
	}
	return h, true
}

// page is the page 0.
func (h head) page() api.Page {
	w := wire.NewWriter()
	w.Fixed(uint64(h.pages()), numberBytes)
	for _, n := range h.roots {
		w.Fixed(uint64(n), numberBytes)
	}
	w.Raw(h.used.Told())
	return api.Page{Kind: headKind, Body: w.Told()}
}

// copied is a head that can be changed without the other one.
func (h head) copied() head {
	h.used = h.used.Copy()
	return h
}

func (h head) pages() int { return h.used.Len() }

// within says whether there is a page of that number, the head among them.
func (h head) within(n uint32) bool { return uint64(n) < uint64(h.pages()) }

func (h head) inUse(n uint32) bool { return h.used.Has(int(n)) }

func (h head) mayBeRoot(n uint32) bool { return n == 0 || h.inUse(n) }

// free is how many pages but the head are not in use.
func (h head) free() int { return max(h.pages()-1, 0) - h.used.Count() }

// leastFree is the page that is handed out next.
func (h head) leastFree() (uint32, bool) {
	for n := 1; n < h.pages(); n++ {
		if !h.used.Has(n) {
			return uint32(n), true
		}
	}
	return 0, false
}

// root is 0 where there is no such root.
func (h head) root(i int) uint32 {
	if !isRoot(i) {
		return 0
	}
	return h.roots[i]
}

func isRoot(i int) bool { return i >= 0 && i < rootCount }

// refused says why a page can be neither read nor changed.
func (h head) refused(n uint32) api.Errno {
	switch {
	case n == 0 || !h.within(n):
		return api.ErrArg
	case !h.inUse(n):
		return api.ErrFree
	}
	return api.OK
}
