// Package disk: sectors that may tear.
package disk

import (
	"slices"

	"postilion/api"
)

const (
	maxSectors = 1024
	half       = api.Sector / 2
	noLimit    = -1
)

// What a number of Crash's keep says of a pending write.
const (
	keepHalf  = 1
	keepWhole = 2
)

type sector [api.Sector]byte

type write struct {
	at   int
	data sector
}

// Disk is a row of sectors whose writes may be lost, or torn, till they are flushed.
type Disk struct {
	flushed []sector
	// latest is flushed with all of pending over it: kept beside them so that
	// Read need not go through what is pending.
	latest  []sector
	pending []write
	left    int // Writes till the power goes; below 0: it does not go
	down    bool
}

// New makes a disk of zeros.
func New(sectors int) *Disk {
	n := min(max(sectors, 0), maxSectors)
	return &Disk{flushed: make([]sector, n), latest: make([]sector, n), left: noLimit}
}

// Len tells how many sectors there are.
func (d *Disk) Len() int {
	return len(d.flushed)
}

// Read tells what was written to a sector last, flushed or not.
func (d *Disk) Read(at int) ([]byte, api.Errno) {
	if e := d.refusal(at); e != api.OK {
		return nil, e
	}
	return slices.Clone(d.latest[at][:]), api.OK
}

// Write writes a whole sector; a crash ahead of the next Flush may lose or tear it.
func (d *Disk) Write(at int, b []byte) api.Errno {
	if e := d.refusal(at); e != api.OK {
		return e
	}
	if len(b) != api.Sector {
		return api.ErrArg
	}
	// Only here: a Write that is refused anyway neither counts nor costs the power.
	if !d.spend() {
		return api.ErrDown
	}
	w := write{at: at}
	copy(w.data[:], b)
	d.latest[at] = w.data
	d.pending = append(d.pending, w)
	return api.OK
}

// Flush makes what is pending outlast any crash.
func (d *Disk) Flush() api.Errno {
	if d.down {
		return api.ErrDown
	}
	for _, w := range d.pending {
		d.flushed[w.at] = w.data
	}
	d.pending = nil
	return api.OK
}

// Pending tells how many writes are not flushed.
func (d *Disk) Pending() int {
	return len(d.pending)
}

// Limit lets so many more Writes be done till the power goes; below 0: all.
func (d *Disk) Limit(writes int) {
	d.left = max(writes, noLimit)
}

// Down tells whether the power is gone.
func (d *Disk) Down() bool {
	return d.down
}

// Crash brings the power back; of what was pending only that survives which keep names.
func (d *Disk) Crash(keep ...int) {
	for i, w := range d.pending {
		if i < len(keep) {
			d.survive(w, keep[i])
		}
	}
	for _, w := range d.pending {
		d.latest[w.at] = d.flushed[w.at]
	}
	d.pending = nil
	d.left = noLimit
	d.down = false
}

// Clone makes another disk in the same state.
func (d *Disk) Clone() *Disk {
	c := *d
	c.flushed = slices.Clone(d.flushed)
	c.latest = slices.Clone(d.latest)
	c.pending = slices.Clone(d.pending)
	return &c
}

// refusal tells why nothing can be done with that sector now.
func (d *Disk) refusal(at int) api.Errno {
	if d.down {
		return api.ErrDown
	}
	if at < 0 || at >= d.Len() {
		return api.ErrRange
	}
	return api.OK
}

// spend takes one Write off the limit; where none is left, the power goes instead.
func (d *Disk) spend() bool {
	if d.left == 0 {
		d.down = true
		return false
	}
	if d.left > 0 {
		d.left--
	}
	return true
}

// survive lays as much of a write on the flushed sector as kept says.
func (d *Disk) survive(w write, kept int) {
	switch kept {
	case keepWhole:
		d.flushed[w.at] = w.data
	case keepHalf:
		copy(d.flushed[w.at][:half], w.data[:half])
	}
}
