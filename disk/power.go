package disk

import "concord/api"

const (
	wordSize = 8 // bytes of what lands whole, or not at all, when the power goes
	words    = api.PageSize / wordSize
)

// Fuse lets the power go behind n further writes and syncs; below 0: never.
func (d *Disk) Fuse(n int) {
	if d == nil || d.off {
		return
	}
	d.fuse = max(n, noFuse)
}

// Lit says whether the power is on.
func (d *Disk) Lit() bool {
	return d.dark() == api.OK
}

// Crash lets a loss of power take its course, and puts the power on.
func (d *Disk) Crash(f api.Fate) {
	if d == nil {
		return
	}
	d.settle(func(i int) int { return landing(f, i) })
	d.off, d.fuse = false, noFuse
}

// landing is how many bytes of the pending write i a fate lets land.
func landing(f api.Fate, i int) int {
	switch {
	case i == f.Torn:
		return min(max(f.Cut, 0), words) * wordSize
	case i < len(f.Keep) && f.Keep[i]:
		return api.PageSize
	}
	return 0
}

// dark says why nothing can be done at all: there is no disk, or it has no power.
func (d *Disk) dark() api.Errno {
	switch {
	case d == nil:
		return api.ErrNil
	case d.off:
		return api.ErrPower
	}
	return api.OK
}

// askFuse is called by an act that nothing else refuses, so that a refused one uses nothing up.
func (d *Disk) askFuse() api.Errno {
	if d.fuse == 0 {
		d.off = true
		return api.ErrPower
	}
	if d.fuse > 0 {
		d.fuse--
	}
	return api.OK
}
