package log

import (
	"bytes"
	"math/rand"
	"slices"
	"testing"

	"postilion/api"
	"postilion/disk"
	"postilion/frame"
	"postilion/mark"
)

// Where the halves begin.
const (
	low  = 2
	high = 258
)

const lastNumber = 1<<24 - 1

// text makes n bytes in which no two parts of a record are alike.
func text(n int) []byte {
	b := make([]byte, n)
	for i := range b {
		b[i] = byte(1 + i%251)
	}
	return b
}

// filling makes a record that takes so many sectors.
func filling(sectors int) []byte {
	return text(19*sectors - 4)
}

func listed(records ...string) [][]byte {
	list := [][]byte{}
	for _, s := range records {
		list = append(list, []byte(s))
	}
	return list
}

func same(a, b [][]byte) bool {
	return slices.EqualFunc(a, b, bytes.Equal)
}

// all reads each sector of a disk that has power.
func all(d *disk.Disk) [][]byte {
	list := [][]byte{}
	for at := range d.Len() {
		s, _ := d.Read(at)
		list = append(list, s)
	}
	return list
}

// scribbled makes a disk with something in every sector, flushed.
func scribbled(sectors int) *disk.Disk {
	d := disk.New(sectors)
	for at := range d.Len() {
		d.Write(at, bytes.Repeat([]byte{byte(at) | 1}, api.Sector))
	}
	d.Flush()
	return d
}

// slotSector seals a slot by hand.
func slotSector(s slot) []byte {
	b := []byte{byte(s.half), byte(s.first >> 16), byte(s.first >> 8), byte(s.first), byte(s.begun >> 8), byte(s.begun)}
	sector, _ := mark.Seal(mark.Mark{Epoch: s.epoch, Seq: s.number}, 0, 1, b)
	return sector
}

// recordSectors seals a record by hand.
func recordSectors(m mark.Mark, b []byte) [][]byte {
	x := frame.Sum(b)
	whole := append([]byte{byte(x >> 24), byte(x >> 16), byte(x >> 8), byte(x)}, b...)
	list := [][]byte{}
	parts := (len(whole) + 18) / 19
	for i := range parts {
		sector, _ := mark.Seal(m, i, parts, whole[19*i:min(19*i+19, len(whole))])
		list = append(list, sector)
	}
	return list
}

// entry is a record in a half.
type entry struct {
	epoch, seq int
	s          string
}

// laid makes a disk with one slot, in its place, and records behind each other in its half.
func laid(s slot, entries ...entry) *disk.Disk {
	d := disk.New(api.Sectors)
	d.Write(s.number%2, slotSector(s))
	at := []int{low, high}[s.half]
	for _, x := range entries {
		for _, sector := range recordSectors(mark.Mark{Epoch: x.epoch, Seq: x.seq}, []byte(x.s)) {
			d.Write(at, sector)
			at++
		}
	}
	d.Flush()
	return d
}

func mustFormat(t *testing.T) *disk.Disk {
	t.Helper()
	d := disk.New(api.Sectors)
	if e := Format(d); e != api.OK {
		t.Fatalf("Format: error %d", e)
	}
	return d
}

func mustOpen(t *testing.T, d *disk.Disk, want ...string) *Log {
	t.Helper()
	l, records, e := Open(d)
	if e != api.OK || l == nil || !same(records, listed(want...)) {
		t.Fatalf("Open = %q, %d; want %q", records, e, want)
	}
	return l
}

// mustNotOpen asks for a refusal that leaves the disk as it is, and writes nothing.
func mustNotOpen(t *testing.T, d *disk.Disk, want api.Errno) {
	t.Helper()
	before, pending := all(d), d.Pending()
	d.Limit(0)
	l, records, e := Open(d)
	if l != nil || len(records) != 0 || e != want {
		t.Errorf("Open = %v, %q, %d; want nothing and error %d", l, records, e, want)
	}
	if d.Down() || d.Pending() != pending || !same(all(d), before) {
		t.Error("Open is refused, but has written")
	}
	d.Limit(-1)
}

func mustAppend(t *testing.T, l *Log, records ...string) {
	t.Helper()
	for _, s := range records {
		if e := l.Append([]byte(s)); e != api.OK {
			t.Fatalf("Append(%q): error %d", s, e)
		}
	}
}

func mustTurn(t *testing.T, l *Log, records ...string) {
	t.Helper()
	if e := l.Turn(listed(records...)...); e != api.OK {
		t.Fatalf("Turn(%q): error %d", records, e)
	}
}

func mustBe(t *testing.T, what string, got, want api.Errno) {
	t.Helper()
	if got != want {
		t.Errorf("%s: error %d, want %d", what, got, want)
	}
}

func mustHave(t *testing.T, l *Log, epoch, room int) {
	t.Helper()
	if l.Epoch() != epoch || l.Room() != room {
		t.Errorf("Epoch %d, Room %d; want %d, %d", l.Epoch(), l.Room(), epoch, room)
	}
}

// mustHold asks for the sectors that are named, flushed, and for all others as before.
func mustHold(t *testing.T, d *disk.Disk, before [][]byte, changed map[int][]byte) {
	t.Helper()
	if d.Pending() != 0 {
		t.Errorf("%d writes are not flushed", d.Pending())
	}
	for at, got := range all(d) {
		want, ok := changed[at]
		if !ok {
			want = before[at]
		}
		if !bytes.Equal(got, want) {
			t.Errorf("sector %d is %v, want %v", at, got, want)
		}
	}
}

// writesOf counts the writes of a call that ends well, on a clone of the disk.
func writesOf(t *testing.T, d *disk.Disk, call func(d *disk.Disk) api.Errno) int {
	t.Helper()
	for n := range 2000 {
		c := d.Clone()
		c.Limit(n)
		if e := call(c); e == api.OK {
			return n
		} else if e != api.ErrDown || !c.Down() {
			t.Fatalf("after %d writes: error %d", n, e)
		}
	}
	t.Fatal("the call does not end well")
	return 0
}

func openAlone(d *disk.Disk) api.Errno {
	_, _, e := Open(d)
	return e
}

func TestP4_1_FormatLaysOutADisk(t *testing.T) {
	for _, d := range []*disk.Disk{disk.New(api.Sectors), scribbled(api.Sectors)} {
		if n := writesOf(t, d, Format); n != 515 {
			t.Errorf("%d writes, want 515", n)
		}
		mustBe(t, "Format", Format(d), api.OK)
		slot1 := slotSector(slot{number: 1, epoch: 1, half: 0, first: 1, begun: 1})
		mustHold(t, d, all(disk.New(api.Sectors)), map[int][]byte{1: slot1})
		want := []byte{0, 1, 0, 0, 1, 0, 1, 6, 0, 0, 0, 1, 0, 1, 31: 1}
		want[29] = 1
		if got, _ := d.Read(1); !bytes.Equal(got, want) {
			t.Errorf("the slot is %v, want %v", got, want)
		}
		mustHave(t, mustOpen(t, d), 2, 256)
	}
}

func TestP4_1_FormatFlushesZerosAheadOfItsSlot(t *testing.T) {
	for _, limit := range []int{0, 1, 2, 300, 513, 514} {
		d := scribbled(api.Sectors)
		d.Limit(limit)
		mustBe(t, "Format that is cut off", Format(d), api.ErrDown)
		if want := limit % 514; d.Pending() != want {
			t.Errorf("Limit(%d): %d writes pending, want %d", limit, d.Pending(), want)
		}
		d.Crash()
		if zeros := same(all(d), all(disk.New(api.Sectors))); zeros != (limit == 514) {
			t.Errorf("Limit(%d): all zeros is %v", limit, zeros)
		}
		if limit == 514 {
			mustNotOpen(t, d, api.ErrNone)
		}
	}
}

func TestP4_1_FormatForgets(t *testing.T) {
	d := mustFormat(t)
	l := mustOpen(t, d)
	mustAppend(t, l, "one", string(text(500)))
	mustTurn(t, l, "two", "three")
	mustAppend(t, l, "four")
	mustBe(t, "Format", Format(d), api.OK)
	mustHold(t, d, all(mustFormat(t)), nil)
	d.Crash()
	l = mustOpen(t, d)
	mustHave(t, l, 2, 256)
	mustTurn(t, l)
	mustOpen(t, d)
}

func TestP4_1_FormatRefuses(t *testing.T) {
	for _, n := range []int{0, 1, 2, 256, 513, 515, 1024} {
		d := scribbled(n)
		before := all(d)
		d.Limit(0)
		mustBe(t, "Format of another size", Format(d), api.ErrArg)
		if d.Down() || d.Pending() != 0 || !same(all(d), before) {
			t.Errorf("%d sectors: Format is refused, but has written", n)
		}
		d.Write(0, make([]byte, api.Sector))
		mustBe(t, "Format of another size, without power", Format(d), api.ErrArg)
	}
	d := scribbled(api.Sectors)
	d.Limit(0)
	mustBe(t, "Format at the limit", Format(d), api.ErrDown)
	mustBe(t, "Format without power", Format(d), api.ErrDown)
	d.Crash()
	if !same(all(d), all(scribbled(api.Sectors))) {
		t.Error("Format without power has written")
	}
}

func TestP4_1_OpenRefuses(t *testing.T) {
	for _, n := range []int{0, 1, 2, 513, 515, 1024} {
		d := disk.New(n)
		if n > 2 {
			d.Write(1, slotSector(slot{1, 1, 0, 1, 1}))
		}
		mustNotOpen(t, d, api.ErrArg)
		d.Limit(0)
		d.Write(0, make([]byte, api.Sector))
		if l, records, e := Open(d); l != nil || len(records) != 0 || n > 0 && !d.Down() || e != api.ErrArg {
			t.Errorf("%d sectors, no power: error %d", n, e)
		}
	}
	mustNotOpen(t, disk.New(api.Sectors), api.ErrNone)
	mustNotOpen(t, scribbled(api.Sectors), api.ErrNone)
	for _, d := range []*disk.Disk{disk.New(api.Sectors), mustFormat(t)} {
		d.Limit(0)
		d.Write(0, make([]byte, api.Sector))
		if l, records, e := Open(d); l != nil || len(records) != 0 || e != api.ErrDown {
			t.Errorf("no power: %v, %q, %d", l, records, e)
		}
	}
}

// Each of these is no slot: alone there is none, and beside a slot that one counts.
func TestP4_1_WhatIsNoSlot(t *testing.T) {
	sealed := func(part, parts int, b ...byte) []byte {
		s, e := mark.Seal(mark.Mark{Epoch: 9, Seq: 9}, part, parts, b)
		if e != api.OK {
			t.Fatal(e)
		}
		return s
	}
	good := slotSector(slot{9, 9, 0, 1, 1})
	torn := append(bytes.Clone(good[:16]), slotSector(slot{7, 9, 0, 1, 1})[16:]...)
	spoiled := bytes.Clone(good)
	spoiled[20] = 1
	cases := [][]byte{
		make([]byte, 32), bytes.Repeat([]byte{255}, 32), torn, spoiled,
		append(bytes.Clone(good[:16]), make([]byte, 16)...),
		sealed(1, 2, 0, 0, 0, 1, 0, 1), sealed(0, 2, 0, 0, 0, 1, 0, 1), sealed(0, 255, 0, 0, 0, 1, 0, 1),
		sealed(0, 1), sealed(0, 1, 0), sealed(0, 1, 0, 0, 0, 1, 0), sealed(0, 1, 0, 0, 0, 1, 0, 1, 0),
		sealed(0, 1, text(19)...), sealed(0, 1, make([]byte, 19)...),
		sealed(0, 1, 2, 0, 0, 1, 0, 1), sealed(0, 1, 3, 0, 0, 1, 0, 1), sealed(0, 1, 255, 0, 0, 1, 0, 1),
	}
	for i, x := range cases {
		for at := range 2 {
			d := disk.New(api.Sectors)
			d.Write(at, x)
			mustNotOpen(t, d, api.ErrNone)
			s := slot{4 - at, 3, 0, 1, 1}
			d = laid(s, entry{3, 1, "one"})
			d.Write(1-s.number%2, x)
			l := mustOpen(t, d, "one")
			mustHave(t, l, 4, 255)
			if t.Failed() {
				t.Fatalf("case %d, sector %d", i, at)
			}
		}
	}
	d := disk.New(api.Sectors)
	d.Write(1, good)
	mustHave(t, mustOpen(t, d), 10, 256)
}

func TestP4_1_TheGreatestNumberIsTheNewest(t *testing.T) {
	for _, c := range [][2]int{{0, 1}, {1, 2}, {2, 1}, {255, 256}, {256, 255}, {65535, 65536}, {9, 2}, {2, 9}, {255, 65536}, {lastNumber - 1, 3}, {4, 0xFFFF}} {
		older, newer := min(c[0], c[1]), max(c[0], c[1])
		d := laid(slot{newer, 3, 1, 7, 2}, entry{2, 7, "new"})
		// The older one has the greater epoch: that does not count.
		d.Write(older%2, slotSector(slot{older, 5, 0, 1, 1}))
		d.Write(low, recordSectors(mark.Mark{Epoch: 1, Seq: 1}, []byte("old"))[0])
		before := all(d)
		l := mustOpen(t, d, "new")
		mustHave(t, l, 4, 255)
		mustHold(t, d, before, map[int][]byte{(newer + 1) % 2: slotSector(slot{newer + 1, 4, 1, 7, 2})})
	}
}

// The chapter asks nothing of where a slot is found, nor which of two alike.
func TestP4_1_ASlotOutOfItsPlace(t *testing.T) {
	d := disk.New(api.Sectors)
	d.Write(0, slotSector(slot{5, 3, 1, 7, 2}))
	d.Write(high, recordSectors(mark.Mark{Epoch: 3, Seq: 7}, []byte("one"))[0])
	mustHave(t, mustOpen(t, d, "one"), 4, 255)
	mustHave(t, mustOpen(t, d, "one"), 5, 255)
	d = laid(slot{5, 3, 1, 7, 2}, entry{3, 7, "one"})
	d.Write(0, slotSector(slot{5, 8, 1, 7, 2}))
	mustHave(t, mustOpen(t, d, "one"), 9, 255)
}

func TestP4_1_WhichRecordsAreTold(t *testing.T) {
	s := slot{number: 6, epoch: 9, first: 100, begun: 5}
	cases := []struct {
		entries []entry
		want    []string
	}{
		{nil, nil},
		{[]entry{{5, 100, "a"}}, []string{"a"}},
		{[]entry{{9, 100, "a"}}, []string{"a"}},
		{[]entry{{7, 100, ""}, {7, 101, ""}}, []string{"", ""}},
		{[]entry{{5, 100, "a"}, {5, 101, "b"}, {7, 102, "c"}, {9, 103, "d"}}, []string{"a", "b", "c", "d"}},
		// another Seq than the next
		{[]entry{{5, 99, "a"}}, nil},
		{[]entry{{5, 101, "a"}}, nil},
		{[]entry{{5, 1, "a"}}, nil},
		{[]entry{{5, 100, "a"}, {5, 102, "b"}}, []string{"a"}},
		{[]entry{{5, 100, "a"}, {5, 100, "b"}, {5, 101, "c"}}, []string{"a"}},
		{[]entry{{5, 100, "a"}, {5, 99, "b"}, {5, 101, "c"}}, []string{"a"}},
		// an epoch ahead of the half's beginning, or past the slot's
		{[]entry{{4, 100, "a"}}, nil},
		{[]entry{{0, 100, "a"}, {5, 101, "b"}}, nil},
		{[]entry{{10, 100, "a"}}, nil},
		{[]entry{{65535, 100, "a"}}, nil},
		{[]entry{{9, 100, "a"}, {10, 101, "b"}}, []string{"a"}},
		{[]entry{{5, 100, "a"}, {4, 101, "b"}}, []string{"a"}},
		// an epoch less than the one ahead
		{[]entry{{6, 100, "a"}, {5, 101, "b"}}, []string{"a"}},
		{[]entry{{5, 100, "a"}, {9, 101, "b"}, {8, 102, "c"}, {9, 103, "d"}}, []string{"a", "b"}},
		{[]entry{{5, 100, "a"}, {9, 101, "b"}, {9, 102, "c"}}, []string{"a", "b", "c"}},
	}
	for i, c := range cases {
		for s.half = range 2 {
			d := laid(s, c.entries...)
			before := all(d)
			l := mustOpen(t, d, c.want...)
			mustHave(t, l, 10, 256-len(c.want))
			next := slot{7, 10, s.half, 100, 5}
			mustHold(t, d, before, map[int][]byte{1: slotSector(next)})
			mustAppend(t, l, "then")
			mustOpen(t, d, append(c.want, "then")...)
			if t.Failed() {
				t.Fatalf("case %d, half %d", i, s.half)
			}
		}
	}
}

// Records of the half begin at its first sector, and end ahead of the first sector that is none of them.
func TestP4_1_RecordsLieInTheirHalf(t *testing.T) {
	for half, begin := range []int{low, high} {
		s := slot{number: 6, epoch: 9, half: half, first: 100, begun: 5}
		long := string(filling(3))
		d := laid(s, entry{5, 100, "a"}, entry{6, 101, long}, entry{6, 102, "b"})
		mustHave(t, mustOpen(t, d.Clone(), "a", long, "b"), 10, 251)
		for at, want := range [][]string{nil, {"a"}, {"a"}, {"a"}, {"a", long}} {
			c := d.Clone()
			c.Write(begin+at, make([]byte, api.Sector))
			mustOpen(t, c, want...)
		}
		// full to the brim, and what lies behind the half is none of it
		d = laid(s, entry{5, 100, string(filling(200))}, entry{5, 101, string(filling(56))}, entry{5, 102, "past"})
		mustHave(t, mustOpen(t, d, string(filling(200)), string(filling(56))), 10, 0)
		d = laid(s, entry{5, 100, string(filling(200))}, entry{5, 101, string(filling(57))})
		mustHave(t, mustOpen(t, d, string(filling(200))), 10, 56)
		// ahead of its first sector there is nothing
		d = laid(s)
		d.Write(begin+1, recordSectors(mark.Mark{Epoch: 5, Seq: 100}, nil)[0])
		mustHave(t, mustOpen(t, d), 10, 256)
	}
}

func TestP4_1_NumbersOfASlotAtTheirEdges(t *testing.T) {
	for _, first := range []int{0, 1, 255, 256, 65536, 0x010203, lastNumber} {
		for _, begun := range []int{0, 1, 255, 256, 0x0102, 65534} {
			s := slot{number: 0x040506, epoch: 65534, half: 1, first: first, begun: begun}
			d := laid(s, entry{begun, first, "one"})
			before := all(d)
			l := mustOpen(t, d, "one")
			mustHave(t, l, 65535, 255)
			s.number, s.epoch = 0x040507, 65535
			mustHold(t, d, before, map[int][]byte{1: slotSector(s)})
		}
	}
	// begun past the log's epoch: no record can lie between
	mustHave(t, mustOpen(t, laid(slot{3, 4, 0, 1, 5}, entry{4, 1, "a"})), 5, 256)
	mustHave(t, mustOpen(t, laid(slot{3, 4, 0, 1, 5}, entry{5, 1, "a"})), 5, 256)
}

func TestP4_1_OpenWritesTwoSlots(t *testing.T) {
	d := mustFormat(t)
	mustAppend(t, mustOpen(t, d), "one")
	if n := writesOf(t, d, openAlone); n != 2 {
		t.Errorf("Open writes %d sectors, want 2", n)
	}
	for number := 3; number < 9; number++ {
		found := slotSector(slot{number - 1, number - 1, 0, 1, 1})
		before := all(d)
		if at := (number - 1) % 2; !bytes.Equal(before[at], found) {
			t.Errorf("slot %d is not in sector %d", number-1, at)
		}
		for limit := range 2 {
			c := d.Clone()
			c.Limit(limit)
			l, records, e := Open(c)
			if l != nil || len(records) != 0 || e != api.ErrDown || c.Pending() != 0 {
				t.Errorf("Limit(%d): %v, %q, %d, %d pending", limit, l, records, e, c.Pending())
			}
			c.Crash()
			mustHold(t, c, before, nil)
		}
		mustHave(t, mustOpen(t, d, "one"), number, 255)
		mustHold(t, d, before, map[int][]byte{number % 2: slotSector(slot{number, number, 0, 1, 1})})
		d.Crash()
		mustHold(t, d, before, map[int][]byte{number % 2: slotSector(slot{number, number, 0, 1, 1})})
	}
}

// What is found but not flushed yet is flushed ahead of the next slot.
func TestP4_1_OpenFlushesWhatItFound(t *testing.T) {
	d := mustFormat(t)
	d.Write(0, slotSector(slot{2, 4, 1, 9, 3}))
	d.Write(high, recordSectors(mark.Mark{Epoch: 4, Seq: 9}, []byte("x"))[0])
	d.Limit(1)
	mustBe(t, "Open that is cut off", openAlone(d), api.ErrDown)
	d.Crash()
	mustHave(t, mustOpen(t, d, "x"), 5, 255)
}

func TestP4_1_EpochsEnd(t *testing.T) {
	d := laid(slot{7, 65535, 0, 1, 1}, entry{65535, 1, "one"})
	mustNotOpen(t, d, api.ErrFull)
	d = laid(slot{7, 65534, 0, 1, 1}, entry{65534, 1, "one"})
	l := mustOpen(t, d, "one")
	mustHave(t, l, 65535, 255)
	mustAppend(t, l, "two")
	mustTurn(t, l, "three", "four")
	mustAppend(t, l, "five")
	mustNotOpen(t, d, api.ErrFull)
	d.Limit(0)
	d.Write(0, make([]byte, api.Sector))
	mustBe(t, "Open without power", openAlone(d), api.ErrDown)
	// the newest counts, not the greatest epoch
	d = laid(slot{7, 65535, 0, 1, 1})
	d.Write(0, slotSector(slot{8, 20, 0, 1, 1}))
	mustHave(t, mustOpen(t, d), 21, 256)
}

func TestP4_1_SlotNumbersEnd(t *testing.T) {
	mustNotOpen(t, laid(slot{lastNumber, 5, 0, 1, 1}, entry{5, 1, "one"}), api.ErrFull)
	d := laid(slot{lastNumber - 1, 5, 0, 1, 1}, entry{5, 1, "one"})
	l := mustOpen(t, d, "one")
	mustAppend(t, l, "two")
	mustRefuse(t, d, l, "Turn at the last slot", api.ErrFull, func() api.Errno { return l.Turn() })
	mustAppend(t, l, "three")
	mustNotOpen(t, d, api.ErrFull)
	d = laid(slot{lastNumber - 2, 5, 0, 1, 1}, entry{5, 1, "one"})
	l = mustOpen(t, d, "one")
	mustTurn(t, l, "two")
	mustRefuse(t, d, l, "Turn at the last slot", api.ErrFull, func() api.Errno { return l.Turn([]byte("three")) })
	mustNotOpen(t, d, api.ErrFull)
}

// mustRefuse asks for an error with nothing written, and the log as it was.
func mustRefuse(t *testing.T, d *disk.Disk, l *Log, what string, want api.Errno, call func() api.Errno) {
	t.Helper()
	before, epoch, room := all(d), l.Epoch(), l.Room()
	d.Limit(0)
	mustBe(t, what, call(), want)
	if d.Down() {
		t.Fatalf("%s: it has tried to write", what)
	}
	d.Limit(-1)
	mustHold(t, d, before, nil)
	mustHave(t, l, epoch, room)
}

func TestP4_2_AppendLaysOutARecord(t *testing.T) {
	d := mustFormat(t)
	l := mustOpen(t, d)
	at, room := low, 256
	records := []string{}
	for i, n := range []int{0, 1, 15, 16, 34, 35, 100, 0, 400} {
		b := text(n)
		before := all(d)
		mustBe(t, "Append", l.Append(b), api.OK)
		changed := map[int][]byte{}
		for _, sector := range recordSectors(mark.Mark{Epoch: 2 + i/3, Seq: 1 + i}, b) {
			changed[at] = sector
			at++
			room--
		}
		mustHold(t, d, before, changed)
		mustHave(t, l, 2+i/3, room)
		d.Crash()
		mustHold(t, d, before, changed)
		records = append(records, string(b))
		if i%3 == 2 {
			l = mustOpen(t, d, records...)
			mustHave(t, l, 3+i/3, room)
		}
	}
	mustOpen(t, d, records...)
}

func TestP4_2_AppendGoesBehindWhatWasFound(t *testing.T) {
	for half, begin := range []int{low, high} {
		d := laid(slot{6, 9, half, 100, 5}, entry{5, 100, string(text(40))}, entry{7, 101, "b"}, entry{5, 102, "stale"})
		l := mustOpen(t, d, string(text(40)), "b")
		before := all(d)
		mustAppend(t, l, "c")
		mustHold(t, d, before, map[int][]byte{begin + 4: recordSectors(mark.Mark{Epoch: 10, Seq: 102}, []byte("c"))[0]})
	}
}

func TestP4_2_AppendIsFullWhereTheHalfIs(t *testing.T) {
	for half := range 2 {
		d := mustFormat(t)
		l := mustOpen(t, d)
		if half == 1 {
			mustTurn(t, l)
		}
		full := func(what string, b []byte) {
			t.Helper()
			mustRefuse(t, d, l, what, api.ErrFull, func() api.Errno { return l.Append(b) })
		}
		full("257 sectors of 256", filling(257))
		full("more than a disk has", text(100000))
		mustAppend(t, l, string(filling(200)))
		mustHave(t, l, 2, 56)
		full("57 sectors of 56", filling(57))
		full("a byte too many", append(filling(56), 1))
		full("256 sectors of 56", filling(256))
		mustAppend(t, l, string(filling(55)))
		mustHave(t, l, 2, 1)
		full("2 sectors of 1", text(16))
		mustAppend(t, l, string(text(15)))
		mustHave(t, l, 2, 0)
		full("nothing, in a full half", nil)
		full("a byte, in a full half", []byte("x"))
		l = mustOpen(t, d, string(filling(200)), string(filling(55)), string(text(15)))
		mustHave(t, l, 3, 0)
		full("nothing, in a full half that was found", nil)
		mustTurn(t, l, "x")
		mustHave(t, l, 3, 255)
		mustAppend(t, l, string(filling(255)))
		mustHave(t, l, 3, 0)
		mustOpen(t, d, "x", string(filling(255)))
	}
}

// A record of 256 parts would lie in an empty half, but frame refuses it: that error goes up, and the log stays in use.
func TestP4_2_ARecordOfTooManyParts(t *testing.T) {
	d := mustFormat(t)
	l := mustOpen(t, d)
	for _, b := range [][]byte{filling(256), append(filling(255), 1)} {
		mustRefuse(t, d, l, "Append", api.ErrArg, func() api.Errno { return l.Append(b) })
		mustRefuse(t, d, l, "Turn", api.ErrArg, func() api.Errno { return l.Turn(b) })
		mustRefuse(t, d, l, "Turn beside another", api.ErrFull, func() api.Errno { return l.Turn(nil, b) })
	}
	mustAppend(t, l, string(filling(255)))
	mustHave(t, l, 2, 1)
	mustTurn(t, l, string(filling(255)), "x")
	mustHave(t, l, 2, 0)
	mustOpen(t, d, string(filling(255)), "x")
}

func TestP4_2_RecordNumbersEnd(t *testing.T) {
	d := laid(slot{6, 9, 0, lastNumber - 1, 5}, entry{5, lastNumber - 1, "a"})
	l := mustOpen(t, d, "a")
	mustRefuse(t, d, l, "Turn to two", api.ErrFull, func() api.Errno { return l.Turn(nil, nil) })
	mustAppend(t, l, "b")
	mustRefuse(t, d, l, "Append", api.ErrFull, func() api.Errno { return l.Append(nil) })
	mustRefuse(t, d, l, "Append of too many parts", api.ErrFull, func() api.Errno { return l.Append(filling(256)) })
	mustRefuse(t, d, l, "Turn to one", api.ErrFull, func() api.Errno { return l.Turn([]byte("c")) })
	mustRefuse(t, d, l, "Turn to none", api.ErrFull, func() api.Errno { return l.Turn() })
	l = mustOpen(t, d, "a", "b")
	mustHave(t, l, 11, 254)
	mustRefuse(t, d, l, "Append to what was found", api.ErrFull, func() api.Errno { return l.Append(nil) })
	mustRefuse(t, d, l, "Turn of what was found", api.ErrFull, func() api.Errno { return l.Turn() })
	mustOpen(t, d, "a", "b")

	d = laid(slot{6, 9, 1, lastNumber, 5})
	l = mustOpen(t, d)
	mustTurn(t, l)
	mustTurn(t, l, "last")
	mustRefuse(t, d, l, "Append", api.ErrFull, func() api.Errno { return l.Append(nil) })
	mustOpen(t, d, "last")
}

func TestP4_2_TurnLaysOutTheOtherHalf(t *testing.T) {
	d := mustFormat(t)
	l := mustOpen(t, d)
	mustAppend(t, l, "one", "two")
	half, number, seq := 0, 2, 3
	for _, records := range [][]string{{"three"}, {}, {"", string(text(40)), "x"}, {string(filling(255)), ""}, {}, {}, {"y"}} {
		before := all(d)
		mustTurn(t, l, records...)
		half, number = 1-half, number+1
		changed := map[int][]byte{number % 2: slotSector(slot{number, 2, half, seq, 2})}
		at := []int{low, high}[half]
		room := 256
		for _, s := range records {
			for _, sector := range recordSectors(mark.Mark{Epoch: 2, Seq: seq}, []byte(s)) {
				changed[at] = sector
				at++
				room--
			}
			seq++
		}
		mustHold(t, d, before, changed)
		mustHave(t, l, 2, room)
		d.Crash()
		mustHold(t, d, before, changed)
		mustOpen(t, d.Clone(), records...)
	}
	before := all(d)
	mustAppend(t, l, "z")
	mustHold(t, d, before, map[int][]byte{high + 1: recordSectors(mark.Mark{Epoch: 2, Seq: seq}, []byte("z"))[0]})
	mustOpen(t, d, "y", "z")
}

func TestP4_2_TurnBeginsInTheLogsEpoch(t *testing.T) {
	d := laid(slot{0x01FFFE, 0x01FE, 1, 0x01FFFD, 5}, entry{6, 0x01FFFD, "a"}, entry{7, 0x01FFFE, "b"})
	l := mustOpen(t, d, "a", "b")
	before := all(d)
	mustTurn(t, l, "c", "d")
	m := mark.Mark{Epoch: 0x01FF, Seq: 0x01FFFF}
	c := recordSectors(m, []byte("c"))[0]
	m.Seq++
	e := recordSectors(m, []byte("d"))[0]
	s := slotSector(slot{0x020000, 0x01FF, 0, 0x01FFFF, 0x01FF})
	mustHold(t, d, before, map[int][]byte{0: s, low: c, low + 1: e})
	mustHave(t, mustOpen(t, d, "c", "d"), 0x0200, 254)
}

func TestP4_2_TurnFlushesItsRecordsAheadOfItsSlot(t *testing.T) {
	for limit := range 5 {
		d := mustFormat(t)
		l := mustOpen(t, d)
		mustAppend(t, l, "one")
		before := all(d)
		d.Limit(limit)
		mustBe(t, "Turn that is cut off", l.Turn(text(20), text(30)), api.ErrDown)
		if want := limit % 4; d.Pending() != want {
			t.Errorf("Limit(%d): %d writes pending, want %d", limit, d.Pending(), want)
		}
		changed := map[int][]byte{}
		for i, sector := range slices.Concat(recordSectors(mark.Mark{Epoch: 2, Seq: 2}, text(20)), recordSectors(mark.Mark{Epoch: 2, Seq: 3}, text(30))) {
			if i < limit {
				changed[high+i] = sector
			}
		}
		if limit < 4 {
			d.Crash(2, 2, 2, 2)
		} else {
			d.Crash()
		}
		mustHold(t, d, before, changed)
		mustOpen(t, d, "one")
	}
	d := mustFormat(t)
	l := mustOpen(t, d)
	d.Limit(5)
	mustBe(t, "Turn", l.Turn(text(20), text(30)), api.OK)
}

func TestP4_2_TurnIsFull(t *testing.T) {
	d := mustFormat(t)
	l := mustOpen(t, d)
	mustAppend(t, l, "one")
	for _, records := range [][][]byte{
		{filling(257)}, {text(100000)}, {filling(200), filling(57)}, {filling(255), nil, nil}, make([][]byte, 257), make([][]byte, 5000),
		{nil, filling(256)}, {filling(256), nil},
	} {
		mustRefuse(t, d, l, "Turn", api.ErrFull, func() api.Errno { return l.Turn(records...) })
	}
	mustAppend(t, l, "two")
	mustOpen(t, d.Clone(), "one", "two")
	mustBe(t, "Turn to 256 records", l.Turn(make([][]byte, 256)...), api.OK)
	mustHave(t, l, 2, 0)
	mustBe(t, "Turn to two that fill the half", l.Turn(filling(200), filling(56)), api.OK)
	mustHave(t, l, 2, 0)
	mustOpen(t, d, string(filling(200)), string(filling(56)))
}

// Neither what an older life left in a half, nor what one of the same epoch did, comes back.
func TestP4_2_WhatIsStaleStaysStale(t *testing.T) {
	d := mustFormat(t)
	l := mustOpen(t, d)
	mustAppend(t, l, "a", "b", "c", "d")
	mustTurn(t, l, "e", "f", "g")
	mustTurn(t, l, "h")
	mustOpen(t, d.Clone(), "h")
	mustTurn(t, l)
	mustOpen(t, d.Clone())
	l = mustOpen(t, d)
	mustTurn(t, l)
	mustOpen(t, d.Clone())
	mustAppend(t, l, "i")
	mustOpen(t, d, "i")
}

func TestP4_2_OutOfUse(t *testing.T) {
	calls := []func(l *Log) api.Errno{
		func(l *Log) api.Errno { return l.Append(text(40)) },
		func(l *Log) api.Errno { return l.Turn(text(10), text(20)) },
		func(l *Log) api.Errno { return l.Turn() },
	}
	for i, writes := range []int{3, 4, 1} {
		for limit := range writes {
			d := mustFormat(t)
			l := mustOpen(t, d)
			mustAppend(t, l, "one")
			d.Limit(limit)
			mustBe(t, "the call that is cut off", calls[i](l), api.ErrDown)
			mustHave(t, l, 2, 255)
			// Not asked ahead of the crash: that call itself is what put it out of use.
			d.Crash(2, 2)
			before := all(d)
			mustBeDead(t, l)
			mustHold(t, d, before, nil)
			mustHave(t, l, 2, 255)
			mustAppend(t, mustOpen(t, d, "one"), "two")
			mustBeDead(t, l)
			mustOpen(t, d, "one", "two")
		}
		d := mustFormat(t)
		l := mustOpen(t, d)
		d.Limit(writes)
		mustBe(t, "the call at its limit", calls[i](l), api.OK)
		d.Write(0, make([]byte, api.Sector))
		mustBe(t, "the call without power", calls[i](l), api.ErrDown)
		mustBeDead(t, l)
		d.Crash()
		mustBeDead(t, l)
	}
}

func mustBeDead(t *testing.T, l *Log) {
	t.Helper()
	mustBe(t, "Append, out of use", l.Append(nil), api.ErrDown)
	mustBe(t, "Turn, out of use", l.Turn(), api.ErrDown)
	mustBe(t, "Turn to one, out of use", l.Turn([]byte("x")), api.ErrDown)
}

// What is refused does not ask for the disk, and so leaves the log in use.
func TestP4_2_FullIsToldWithoutPower(t *testing.T) {
	d := mustFormat(t)
	l := mustOpen(t, d)
	d.Limit(0)
	d.Write(2, make([]byte, api.Sector))
	mustBe(t, "Append", l.Append(filling(257)), api.ErrFull)
	mustBe(t, "Turn", l.Turn(filling(257)), api.ErrFull)
	d.Crash()
	mustAppend(t, l, "one")
	mustOpen(t, d, "one")
}

func TestR4_WhatIsHandedInStaysAsItIs(t *testing.T) {
	memory := text(100)
	d := mustFormat(t)
	l := mustOpen(t, d)
	mustBe(t, "Append", l.Append(memory[:40]), api.OK)
	mustBe(t, "Append", l.Append(memory[:0]), api.OK)
	records := [][]byte{memory[:30], memory[:15], memory[3:50], []byte("behind")}
	clone := d.Clone()
	mustBe(t, "Turn", l.Turn(records[:3]...), api.OK)
	if !bytes.Equal(memory, text(100)) || string(records[3]) != "behind" {
		t.Errorf("what was handed in has changed: %v", memory)
	}
	clear(memory)
	clear(records)
	mustOpen(t, clone, string(text(40)), "")
	mustOpen(t, d, string(text(30)), string(text(15)), string(text(50)[3:]))
}

func TestR4_WhatIsHandedOutIsNew(t *testing.T) {
	d := mustFormat(t)
	mustAppend(t, mustOpen(t, d), "one", string(text(40)), "")
	_, first, _ := Open(d)
	_, second, _ := Open(d)
	for _, b := range first {
		b = b[:cap(b)]
		for i := range b {
			b[i] = 0xEE
		}
	}
	if !same(second, listed("one", string(text(40)), "")) {
		t.Errorf("two answers share memory: %q", second)
	}
	_, third, _ := Open(d)
	for i := range third {
		for j, b := range third {
			if i != j {
				clear(b[:cap(b)])
			}
		}
		if want := listed("one", string(text(40)), "")[i]; !bytes.Equal(third[i], want) {
			t.Errorf("record %d shares memory with another", i)
		}
		_, third, _ = Open(d)
	}
}

func TestR4_NilIsEmpty(t *testing.T) {
	a, b := mustFormat(t), mustFormat(t)
	la, lb := mustOpen(t, a), mustOpen(t, b)
	mustBe(t, "Append", la.Append(nil), api.OK)
	mustBe(t, "Append", lb.Append([]byte{}), api.OK)
	mustBe(t, "Turn", la.Turn(nil...), api.OK)
	mustBe(t, "Turn", lb.Turn([][]byte{}...), api.OK)
	mustBe(t, "Turn", la.Turn(nil, nil), api.OK)
	mustBe(t, "Turn", lb.Turn([]byte{}, []byte{}), api.OK)
	mustHold(t, a, all(b), nil)
}

// Whatever stands on a disk, the calls end, and what Open tells it tells again.
func TestR1_AnyDisk(t *testing.T) {
	random := rand.New(rand.NewSource(4))
	opened := 0
	for range 3000 {
		d := disk.New(api.Sectors)
		for at := range 2 {
			s := slot{random.Intn(4), 3 + random.Intn(4), random.Intn(2), random.Intn(3), random.Intn(4)}
			if random.Intn(10) == 0 {
				s = slot{lastNumber - random.Intn(3), 65535 - random.Intn(3), random.Intn(2), lastNumber - random.Intn(3), random.Intn(4)}
			}
			d.Write(at, slotSector(s))
		}
		for at := 2; at < api.Sectors; at++ {
			// No epoch that is still to come: those the log itself would take for its own.
			m := mark.Mark{Epoch: random.Intn(4), Seq: random.Intn(5)}
			sectors := recordSectors(m, text(random.Intn(60)))
			d.Write(at, sectors[random.Intn(len(sectors))])
		}
		l, records, e := Open(d)
		if e != api.OK {
			if l != nil || len(records) != 0 || e != api.ErrFull {
				t.Fatalf("Open = %v, %q, %d", l, records, e)
			}
			continue
		}
		opened++
		if l.Append([]byte("x")) == api.OK {
			records = append(records, []byte("x"))
		}
		if _, again, e := Open(d); e == api.OK && !same(again, records) {
			t.Fatalf("told first %q, then %q", records, again)
		}
	}
	if opened < 1000 {
		t.Errorf("only %d were opened", opened)
	}
}
