package log

import (
	"math/rand"
	"slices"
	"testing"

	"postilion/api"
	"postilion/disk"
)

// keeps makes all choices of what survives of n writes.
func keeps(n int) [][]int {
	list := [][]int{nil}
	for range n {
		longer := [][]int{}
		for _, k := range list {
			for c := range 3 {
				longer = append(longer, append(slices.Clone(k), c))
			}
		}
		list = longer
	}
	return list
}

// mustTellOne opens a disk and asks for one of several lists; told is the one that it is.
func mustTellOne(t *testing.T, d *disk.Disk, lists ...[][]byte) (l *Log, told [][]byte) {
	t.Helper()
	l, records, e := Open(d)
	if e != api.OK || !slices.ContainsFunc(lists, func(x [][]byte) bool { return same(x, records) }) {
		t.Fatalf("Open = %q, %d; want one of %q", records, e, lists)
	}
	return l, records
}

// worn makes a log whose halves both have what older lives left: records of other lengths, cut off ones, torn ones.
func worn(t *testing.T) (*disk.Disk, [][]byte) {
	t.Helper()
	d := mustFormat(t)
	l := mustOpen(t, d)
	for i := range 8 {
		mustAppend(t, l, string(text(i*7)))
	}
	mustTurn(t, l, "a", string(text(50)), "b", "c", "d")
	mustTurn(t, l, "e", "f")
	d.Limit(3)
	l.Append(text(90))
	d.Crash(0, 2, 1)
	l = mustOpen(t, d, "e", "f")
	d.Limit(2)
	l.Turn(text(60))
	d.Crash(1, 2)
	mustAppend(t, mustOpen(t, d, "e", "f"), "g")
	return d, listed("e", "f", "g")
}

// afterwards goes on with a disk behind a crash, and asks that nothing comes back that was not told.
func afterwards(t *testing.T, d *disk.Disk, lists ...[][]byte) {
	t.Helper()
	l, told := mustTellOne(t, d, lists...)
	c := d.Clone()
	mustBe(t, "Append", l.Append([]byte("x")), api.OK)
	mustTellOne(t, d, append(slices.Clone(told), []byte("x")))
	l, _ = mustTellOne(t, c, told)
	mustTurn(t, l, "y")
	l = mustOpen(t, c, "y")
	mustTurn(t, l)
	l = mustOpen(t, c)
	mustAppend(t, l, "z")
	mustOpen(t, c, "z")
}

func TestP4_3_AppendIsDoneOrNotDone(t *testing.T) {
	for size, writes := range map[int]int{0: 1, 16: 2, 40: 3, 70: 4} {
		base, old := worn(t)
		long := append(slices.Clone(old), text(size))
		for limit := range writes {
			for _, keep := range keeps(limit) {
				d := base.Clone()
				l := mustOpen(t, d, "e", "f", "g")
				d.Limit(limit)
				mustBe(t, "Append that is cut off", l.Append(text(size)), api.ErrDown)
				d.Crash(keep...)
				afterwards(t, d, old)
			}
		}
		d := base.Clone()
		l := mustOpen(t, d, "e", "f", "g")
		d.Limit(writes)
		mustBe(t, "Append", l.Append(text(size)), api.OK)
		d.Crash()
		afterwards(t, d, long)
	}
}

// Here power goes between a call's last write and its Flush: the same call, without its last step, by hand.
func TestP4_3_AppendThatIsWrittenButNotFlushed(t *testing.T) {
	base, old := worn(t)
	l := mustOpen(t, base, "e", "f", "g")
	done := base.Clone()
	mustAppend(t, &Log{d: done, number: l.number, epoch: l.epoch, half: l.half, end: l.end, next: l.next}, string(text(40)))
	for _, keep := range keeps(3) {
		d := base.Clone()
		for i := range 3 {
			s, _ := done.Read(l.end + i)
			d.Write(l.end+i, s)
		}
		d.Crash(keep...)
		if slices.Equal(keep, []int{2, 2, 2}) {
			afterwards(t, d, append(slices.Clone(old), text(40)))
		} else {
			afterwards(t, d, old)
		}
	}
}

func TestP4_3_TurnIsDoneOrNotDone(t *testing.T) {
	turned := [][]byte{text(30), nil, []byte("new")}
	base, old := worn(t)
	for limit := range 5 {
		pending := limit % 4
		for _, keep := range keeps(pending) {
			d := base.Clone()
			l := mustOpen(t, d, "e", "f", "g")
			d.Limit(limit)
			mustBe(t, "Turn that is cut off", l.Turn(turned...), api.ErrDown)
			d.Crash(keep...)
			afterwards(t, d, old)
		}
	}
	d := base.Clone()
	l := mustOpen(t, d, "e", "f", "g")
	d.Limit(5)
	mustBe(t, "Turn", l.Turn(turned...), api.OK)
	d.Crash()
	afterwards(t, d, turned)
}

// A Turn whose slot is written but not flushed: it survives whole, torn, or not.
func TestP4_3_TurnWhoseSlotTears(t *testing.T) {
	turned := [][]byte{text(30), nil, []byte("new")}
	base, old := worn(t)
	l := mustOpen(t, base, "e", "f", "g")
	done := base.Clone()
	copied := *l
	copied.d = done
	mustBe(t, "Turn", copied.Turn(turned...), api.OK)
	at := copied.number % 2
	s, _ := done.Read(at)
	for keep, want := range [][][]byte{old, old, turned} {
		d := base.Clone()
		d.Limit(4)
		mine := *l
		mine.d = d
		mustBe(t, "Turn that is cut off", mine.Turn(turned...), api.ErrDown)
		d.Crash()
		d.Write(at, s)
		d.Crash(keep)
		afterwards(t, d, want)
	}
}

// Opening is cut off as well, again and again, and its slots tear.
func TestP4_3_OpenIsCutOff(t *testing.T) {
	base, old := worn(t)
	for _, choice := range keeps(6) {
		d := base.Clone()
		for _, c := range choice {
			d.Limit(c)
			if l, records, e := Open(d); c < 2 && (l != nil || len(records) != 0 || e != api.ErrDown) || c == 2 && (e != api.OK || !same(records, old)) {
				t.Fatalf("Limit(%d): %q, %d", c, records, e)
			}
			d.Crash()
		}
		afterwards(t, d, old)
	}
	for _, choice := range keeps(4) {
		d := base.Clone()
		for _, c := range choice {
			s, at, e := newest(d)
			if e != api.OK {
				t.Fatalf("no slot: error %d", e)
			}
			d.Write(1-at, slotSector(slot{s.number + 1, s.epoch + 1, s.half, s.first, s.begun}))
			d.Crash(c)
		}
		afterwards(t, d, old)
	}
}

// tearing is a disk that is driven at random, and what a log on it may tell.
type tearing struct {
	d      *disk.Disk
	l      *Log
	random *rand.Rand
	may    [][][]byte // the lists that are allowed; one if nothing is in doubt
	cut    int
}

func (x *tearing) record() []byte {
	b := make([]byte, x.random.Intn(1+x.random.Intn(120)))
	x.random.Read(b)
	return b
}

// crash cuts the power, at any time, and keeps what chance says.
func (x *tearing) crash() {
	keep := make([]int, x.d.Pending())
	for i := range keep {
		keep[i] = x.random.Intn(3)
	}
	if x.random.Intn(3) == 0 {
		keep = slices.Repeat([]int{2}, len(keep))
	}
	x.d.Crash(keep...)
}

// reopen opens the log, cut off some times; what it tells is no longer in doubt.
func (x *tearing) reopen(t *testing.T) {
	t.Helper()
	for x.random.Intn(2) == 0 {
		x.d.Limit(x.random.Intn(2))
		if l, records, e := Open(x.d); l != nil || len(records) != 0 || e != api.ErrDown {
			t.Fatalf("Open that is cut off: %v, %q, %d", l, records, e)
		}
		x.crash()
	}
	l, told := mustTellOne(t, x.d, x.may...)
	x.l, x.may = l, [][][]byte{told}
}

// done notes what a call was to change, and how it ended.
func (x *tearing) done(t *testing.T, e api.Errno, after [][]byte, fits bool) {
	t.Helper()
	switch {
	case e == api.OK && fits:
		x.may = [][][]byte{after}
	case e == api.ErrFull && !fits:
	case e == api.ErrDown && x.d.Down():
		x.may = append(x.may, after)
		x.cut++
		x.crash()
		x.reopen(t)
	default:
		t.Fatalf("error %d, fits: %v", e, fits)
	}
}

func (x *tearing) step(t *testing.T) {
	t.Helper()
	if x.random.Intn(4) == 0 {
		x.d.Limit(x.random.Intn(10))
	}
	switch x.random.Intn(12) {
	case 0:
		after := [][]byte{}
		for range x.random.Intn(8) {
			after = append(after, x.record())
		}
		x.done(t, x.l.Turn(after...), after, need(after) <= 256)
	case 1:
		x.d.Limit(-1)
		x.crash()
		x.reopen(t)
	default:
		b := x.record()
		after := append(slices.Clone(x.may[0]), b)
		x.done(t, x.l.Append(b), after, need(after) <= 256)
	}
	if x.d.Pending() != 0 {
		t.Fatalf("%d writes are not flushed", x.d.Pending())
	}
}

func TestP4_3_AnyScript(t *testing.T) {
	cut := 0
	for seed := range int64(150) {
		x := &tearing{d: mustFormat(t), random: rand.New(rand.NewSource(seed)), may: [][][]byte{{}}}
		x.reopen(t)
		for range 300 {
			x.step(t)
		}
		cut += x.cut
	}
	if cut < 1000 {
		t.Errorf("only %d calls were cut off", cut)
	}
}

// A Format that is cut off on a new disk leaves no log, or an empty one.
func TestP4_3_FormatOfANewDisk(t *testing.T) {
	random := rand.New(rand.NewSource(5))
	for range 200 {
		d := disk.New(api.Sectors)
		d.Limit(random.Intn(515))
		mustBe(t, "Format that is cut off", Format(d), api.ErrDown)
		keep := make([]int, d.Pending())
		for i := range keep {
			keep[i] = random.Intn(3)
		}
		d.Crash(keep...)
		mustNotOpen(t, d, api.ErrNone)
	}
	for keep, want := range []api.Errno{api.ErrNone, api.ErrNone, api.OK} {
		d := disk.New(api.Sectors)
		d.Write(1, slotSector(slot{1, 1, 0, 1, 1}))
		d.Crash(keep)
		mustBe(t, "Open", openAlone(d), want)
	}
}
