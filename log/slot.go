package log

import (
	"postilion/api"
	"postilion/disk"
	"postilion/mark"
)

// Where a slot's bytes begin.
const (
	atHalf    = 0
	atFirst   = 1
	atBegun   = 4
	slotBytes = 6
)

// slot tells which half counts, and from which record on.
type slot struct {
	number int
	epoch  int // the log's
	half   int
	first  int // the Seq of the half's first record
	begun  int // the epoch in which the half was begun
}

// newest finds the slot that counts, and the sector that it stands in.
func newest(d *disk.Disk) (best slot, at int, e api.Errno) {
	found := false
	for i := range slots {
		b, e := d.Read(i)
		if e != api.OK {
			return slot{}, 0, e
		}
		s, ok := slotOf(b)
		if ok && (!found || s.number > best.number) {
			best, at, found = s, i, true
		}
	}
	if !found {
		return slot{}, 0, api.ErrNone
	}
	return best, at, api.OK
}

// slotOf tells which slot a sector is, if it is one.
func slotOf(sector []byte) (slot, bool) {
	m, part, parts, b, e := mark.Open(sector)
	if e != api.OK || part != 0 || parts != 1 || len(b) != slotBytes || b[atHalf] > 1 {
		return slot{}, false
	}
	return slot{
		number: m.Seq,
		epoch:  m.Epoch,
		half:   int(b[atHalf]),
		first:  int(b[atFirst])<<16 | int(b[atFirst+1])<<8 | int(b[atFirst+2]),
		begun:  int(b[atBegun])<<8 | int(b[atBegun+1]),
	}, true
}

// place tells the sector that a slot goes to: never that of the one ahead.
func (s slot) place() int {
	return s.number % slots
}

// put writes a slot, flushed.
func (s slot) put(d *disk.Disk, at int) api.Errno {
	sealed, e := mark.Seal(mark.Mark{Epoch: s.epoch, Seq: s.number}, 0, 1, s.bytes())
	if e != api.OK {
		return e
	}
	if e := d.Write(at, sealed); e != api.OK {
		return e
	}
	return d.Flush()
}

func (s slot) bytes() []byte {
	return []byte{
		byte(s.half),
		byte(s.first >> 16), byte(s.first >> 8), byte(s.first),
		byte(s.begun >> 8), byte(s.begun),
	}
}
