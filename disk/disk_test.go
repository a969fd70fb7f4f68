package disk

import (
	"bytes"
	"math"
	"slices"
	"testing"

	"postilion/api"
)

// fill makes a sector of one byte.
func fill(c byte) []byte {
	return bytes.Repeat([]byte{c}, api.Sector)
}

// torn makes a sector whose halves are of unlike bytes.
func torn(first, second byte) []byte {
	return append(fill(first)[:16:16], fill(second)[16:]...)
}

// ramp makes a sector in which no two bytes are alike.
func ramp(from byte) []byte {
	b := make([]byte, api.Sector)
	for i := range b {
		b[i] = from + byte(i)
	}
	return b
}

func mustHold(t *testing.T, d *Disk, at int, want []byte) {
	t.Helper()
	if got, e := d.Read(at); e != api.OK || !bytes.Equal(got, want) {
		t.Errorf("Read(%d) = %v, %d; want %v", at, got, e, want)
	}
}

func mustBe(t *testing.T, what string, got, want api.Errno) {
	t.Helper()
	if got != want {
		t.Errorf("%s: error %d, want %d", what, got, want)
	}
}

func mustPend(t *testing.T, d *Disk, want int) {
	t.Helper()
	if got := d.Pending(); got != want {
		t.Errorf("Pending() = %d, want %d", got, want)
	}
}

func TestP1_1_NewCutsSectors(t *testing.T) {
	cases := []struct{ sectors, want int }{
		{math.MinInt, 0}, {-1, 0}, {0, 0}, {1, 1}, {7, 7}, {1023, 1023}, {1024, 1024}, {1025, 1024}, {math.MaxInt, 1024},
	}
	for _, c := range cases {
		d := New(c.sectors)
		if d.Len() != c.want {
			t.Errorf("New(%d).Len() = %d, want %d", c.sectors, d.Len(), c.want)
		}
		for at := range c.want {
			mustHold(t, d, at, make([]byte, 32))
		}
		_, e := d.Read(c.want)
		mustBe(t, "Read behind the end", e, api.ErrRange)
		mustPend(t, d, 0)
		if d.Down() {
			t.Errorf("New(%d) is down", c.sectors)
		}
	}
}

func TestP1_1_NewHasNoLimit(t *testing.T) {
	d := New(1024)
	for i := range 5000 {
		mustBe(t, "Write", d.Write(i%1024, fill(byte(i))), api.OK)
	}
	mustPend(t, d, 5000)
	mustBe(t, "Write at the end", d.Write(1023, ramp(1)), api.OK)
	mustHold(t, d, 1023, ramp(1))
}

func TestP1_1_ReadTellsTheLastWrite(t *testing.T) {
	d := New(3)
	mustBe(t, "Write", d.Write(1, ramp(1)), api.OK)
	mustHold(t, d, 1, ramp(1))
	mustBe(t, "Write", d.Write(1, ramp(2)), api.OK)
	mustBe(t, "Write", d.Write(2, ramp(3)), api.OK)
	mustHold(t, d, 0, fill(0))
	mustHold(t, d, 1, ramp(2))
	mustHold(t, d, 2, ramp(3))
	mustPend(t, d, 3)
	mustBe(t, "Flush", d.Flush(), api.OK)
	mustPend(t, d, 0)
	mustHold(t, d, 0, fill(0))
	mustHold(t, d, 1, ramp(2))
	mustHold(t, d, 2, ramp(3))
	mustBe(t, "Flush of nothing", d.Flush(), api.OK)
	mustBe(t, "Write", d.Write(1, ramp(4)), api.OK)
	mustHold(t, d, 1, ramp(4))
	mustPend(t, d, 1)
}

func TestP1_1_WrongArguments(t *testing.T) {
	d := New(2)
	mustBe(t, "Write", d.Write(0, ramp(1)), api.OK)
	for _, at := range []int{math.MinInt, -1, 2, 3, 1024, math.MaxInt} {
		b, e := d.Read(at)
		mustBe(t, "Read of no sector", e, api.ErrRange)
		if len(b) != 0 {
			t.Errorf("Read(%d) tells %v beside its error", at, b)
		}
		mustBe(t, "Write to no sector", d.Write(at, fill(1)), api.ErrRange)
		mustBe(t, "ErrRange is ahead of ErrArg", d.Write(at, nil), api.ErrRange)
	}
	for _, n := range []int{0, 1, 16, 31, 33, 64} {
		mustBe(t, "Write of another length", d.Write(0, make([]byte, n)), api.ErrArg)
	}
	mustBe(t, "Write of nil", d.Write(0, nil), api.ErrArg)
	mustPend(t, d, 1)
	mustHold(t, d, 0, ramp(1))
	mustHold(t, d, 1, fill(0))
	none := New(0)
	mustBe(t, "Write to no sectors", none.Write(0, fill(1)), api.ErrRange)
	mustBe(t, "Flush of no sectors", none.Flush(), api.OK)
	none.Crash(2, 1, 0)
	mustPend(t, none, 0)
}

func TestP1_1_LimitCountsWritesDone(t *testing.T) {
	for limit := range 4 {
		d := New(4)
		d.Limit(limit)
		for i := range limit {
			mustBe(t, "no such sector", d.Write(4, fill(1)), api.ErrRange)
			mustBe(t, "wrong length", d.Write(0, nil), api.ErrArg)
			mustBe(t, "Write", d.Write(i, ramp(byte(i+1))), api.OK)
		}
		mustBe(t, "no such sector at the limit", d.Write(-1, fill(1)), api.ErrRange)
		mustBe(t, "wrong length at the limit", d.Write(0, make([]byte, 33)), api.ErrArg)
		mustBe(t, "Flush at the limit", d.Flush(), api.OK)
		if d.Down() {
			t.Errorf("Limit(%d): down ahead of the next Write", limit)
		}
		mustHold(t, d, 3, fill(0))
		mustBe(t, "the next Write", d.Write(3, fill(9)), api.ErrDown)
		if !d.Down() {
			t.Errorf("Limit(%d): still power behind the next Write", limit)
		}
		mustPend(t, d, 0)
		d.Crash()
		for i := range limit {
			mustHold(t, d, i, ramp(byte(i+1)))
		}
		mustHold(t, d, 3, fill(0))
	}
}

func TestP1_1_LimitIsSetAnew(t *testing.T) {
	d := New(1)
	d.Limit(1)
	d.Limit(3)
	for range 3 {
		mustBe(t, "Write under the later limit", d.Write(0, fill(1)), api.OK)
	}
	for _, none := range []int{-1, -2, math.MinInt} {
		d.Limit(0)
		d.Limit(none)
		for range 3 {
			mustBe(t, "Write under no limit", d.Write(0, fill(1)), api.OK)
		}
	}
	d.Limit(math.MaxInt)
	mustBe(t, "Write under a great limit", d.Write(0, fill(1)), api.OK)
	d.Limit(0)
	mustBe(t, "Write under limit 0", d.Write(0, fill(1)), api.ErrDown)
}

func TestP1_1_NoPower(t *testing.T) {
	d := New(2)
	mustBe(t, "Write", d.Write(0, ramp(1)), api.OK)
	d.Limit(1)
	mustBe(t, "Write", d.Write(1, ramp(2)), api.OK)
	mustBe(t, "Write that is one too many", d.Write(1, ramp(3)), api.ErrDown)
	for range 2 {
		b, e := d.Read(0)
		mustBe(t, "Read", e, api.ErrDown)
		if len(b) != 0 {
			t.Errorf("Read tells %v without power", b)
		}
		_, e = d.Read(2)
		mustBe(t, "Read of no sector", e, api.ErrDown)
		mustBe(t, "Write", d.Write(0, fill(4)), api.ErrDown)
		mustBe(t, "Write to no sector", d.Write(-1, fill(4)), api.ErrDown)
		mustBe(t, "Write of nothing", d.Write(0, nil), api.ErrDown)
		mustBe(t, "Flush", d.Flush(), api.ErrDown)
		mustPend(t, d, 2)
		if !d.Down() || d.Len() != 2 {
			t.Error("Down or Len is wrong without power")
		}
		d.Limit(5)
		d.Limit(-1)
	}
	d.Limit(1)
	d.Crash(2, 1, 2)
	if d.Down() {
		t.Error("down behind Crash")
	}
	mustPend(t, d, 0)
	mustHold(t, d, 0, ramp(1))
	mustHold(t, d, 1, append(ramp(2)[:16:16], make([]byte, 16)...))
	for range 3 {
		mustBe(t, "Write behind Crash, without limit", d.Write(0, fill(5)), api.OK)
	}
}

func TestP1_1_CrashWithPower(t *testing.T) {
	d := New(2)
	mustBe(t, "Write", d.Write(0, ramp(1)), api.OK)
	mustBe(t, "Flush", d.Flush(), api.OK)
	mustBe(t, "Write", d.Write(0, ramp(2)), api.OK)
	mustBe(t, "Write", d.Write(1, ramp(3)), api.OK)
	d.Limit(0)
	d.Crash()
	mustHold(t, d, 0, ramp(1))
	mustHold(t, d, 1, fill(0))
	mustPend(t, d, 0)
	mustBe(t, "Write behind Crash, without limit", d.Write(1, ramp(4)), api.OK)
	mustPend(t, d, 1)
	d.Crash(2)
	mustHold(t, d, 1, ramp(4))
	d.Crash(1, 1)
	mustHold(t, d, 1, ramp(4))
	d.Crash()
	mustHold(t, d, 1, ramp(4))
}

func TestP1_1_CrashKeeps(t *testing.T) {
	cases := []struct {
		keep []int
		want []byte
	}{
		{nil, fill(9)},
		{[]int{}, fill(9)},
		{[]int{2}, fill(5)},
		{[]int{1}, torn(5, 9)},
		{[]int{0}, fill(9)},
		{[]int{0, 2}, fill(6)},
		{[]int{0, 1}, torn(6, 9)},
		{[]int{2, 1}, torn(6, 5)},
		{[]int{2, 1, 1}, torn(7, 5)},
		{[]int{1, 2}, fill(6)},
		{[]int{0, 2, 1}, torn(7, 6)},
		{[]int{2, 0, 1}, torn(7, 5)},
		{[]int{1, 1, 0}, torn(6, 9)},
		{[]int{2, 2, 2}, fill(7)},
		{[]int{2, 2, 2, 2, 1, 0}, fill(7)},
		{[]int{0, 0, 0, 2, 2, 1}, fill(9)},
		{[]int{3, -1, -2}, fill(9)},
		{[]int{math.MinInt, math.MaxInt, 16}, fill(9)},
		{[]int{4, 32, 1}, torn(7, 9)},
	}
	for _, c := range cases {
		d := New(1)
		d.Write(0, fill(9))
		d.Flush()
		for i := range 3 {
			d.Write(0, fill(byte(5+i)))
		}
		given := slices.Clone(c.keep)
		d.Crash(c.keep...)
		mustHold(t, d, 0, c.want)
		mustPend(t, d, 0)
		if !slices.Equal(given, c.keep) {
			t.Errorf("Crash changed keep to %v", c.keep)
		}
		d.Crash(2, 2, 2)
		mustHold(t, d, 0, c.want)
	}
}

func TestP1_1_CrashCountsOverAllSectors(t *testing.T) {
	d := New(3)
	for i, at := range []int{2, 0, 2, 1} {
		d.Write(at, ramp(byte(10*(i+1))))
	}
	d.Crash(2, 0, 1, 2)
	mustHold(t, d, 0, fill(0))
	mustHold(t, d, 1, ramp(40))
	mustHold(t, d, 2, append(ramp(30)[:16:16], ramp(10)[16:]...))
}

func TestR4_WriteKeepsNothingHandedIn(t *testing.T) {
	d := New(1)
	room := append(ramp(1), 77, 78)
	mustBe(t, "Write", d.Write(0, room[:32]), api.OK)
	if !bytes.Equal(room, append(ramp(1), 77, 78)) {
		t.Errorf("Write changed what it was handed: %v", room)
	}
	clear(room)
	mustHold(t, d, 0, ramp(1))
	mustBe(t, "Flush", d.Flush(), api.OK)
	mustHold(t, d, 0, ramp(1))
	d.Crash()
	mustHold(t, d, 0, ramp(1))
}

func TestR4_ReadHandsOutNewMemory(t *testing.T) {
	d := New(1)
	d.Write(0, ramp(1))
	for range 2 {
		one, _ := d.Read(0)
		other, _ := d.Read(0)
		clear(one[:cap(one)])
		if !bytes.Equal(other, ramp(1)) {
			t.Error("two answers of Read share memory")
		}
		mustHold(t, d, 0, ramp(1))
		d.Flush()
	}
	d.Crash()
	mustHold(t, d, 0, ramp(1))
}

func TestR4_CloneGoesItsOwnWay(t *testing.T) {
	d := New(3)
	d.Write(0, fill(1))
	d.Flush()
	d.Write(1, fill(2))
	d.Write(2, fill(3))
	d.Write(2, fill(4))
	d.Limit(2)
	c := d.Clone()
	mustPend(t, c, 3)
	d.Write(0, fill(5))
	c.Write(0, fill(6))
	mustHold(t, d, 0, fill(5))
	mustHold(t, c, 0, fill(6))
	mustBe(t, "second Write of the first disk", d.Write(1, fill(7)), api.OK)
	mustBe(t, "third Write of the first disk", d.Write(1, fill(7)), api.ErrDown)
	if !d.Down() || c.Down() {
		t.Error("the power is not each disk's own")
	}
	mustPend(t, c, 4)
	mustBe(t, "second Write of the clone", c.Write(1, fill(8)), api.OK)
	dead := d.Clone()
	d.Crash(0, 2, 0, 2, 2)
	c.Crash(2, 0, 1, 2, 1)
	if d.Down() || !dead.Down() {
		t.Error("Crash of one disk reached its clone")
	}
	for at, want := range [][]byte{fill(5), fill(7), fill(3)} {
		mustHold(t, d, at, want)
	}
	for at, want := range [][]byte{fill(6), torn(8, 2), torn(4, 0)} {
		mustHold(t, c, at, want)
	}
	mustPend(t, dead, 5)
	dead.Crash()
	for at, want := range [][]byte{fill(1), fill(0), fill(0)} {
		mustHold(t, dead, at, want)
	}
	if c = New(0).Clone(); c.Len() != 0 || c.Pending() != 0 || c.Down() {
		t.Error("Clone of a disk without sectors")
	}
}

// past is a disk as the chapter tells it: all that ever survived, in order, and what is pending.
type past struct {
	size      int
	survivors []func(image [][]byte)
	pending   []func(image [][]byte, n int)
	left      int
	down      bool
}

func (p *past) write(at int, b []byte) api.Errno {
	switch {
	case p.down:
		return api.ErrDown
	case at < 0 || at >= p.size:
		return api.ErrRange
	case len(b) != 32:
		return api.ErrArg
	case p.left == 0:
		p.down = true
		return api.ErrDown
	}
	p.left--
	b = bytes.Clone(b)
	p.pending = append(p.pending, func(image [][]byte, n int) { copy(image[at], b[:n]) })
	return api.OK
}

func (p *past) settle(count func(i int) int) {
	for i, lay := range p.pending {
		n := count(i)
		p.survivors = append(p.survivors, func(image [][]byte) { lay(image, n) })
	}
	p.pending = nil
}

func (p *past) flush() api.Errno {
	if p.down {
		return api.ErrDown
	}
	p.settle(func(int) int { return 32 })
	return api.OK
}

func (p *past) crash(keep []int) {
	p.settle(func(i int) int {
		if i >= len(keep) || keep[i] < 1 || keep[i] > 2 {
			return 0
		}
		return 16 * keep[i]
	})
	p.down, p.left = false, -1
}

func (p *past) image() [][]byte {
	image := make([][]byte, p.size)
	for at := range image {
		image[at] = make([]byte, 32)
	}
	for _, lay := range p.survivors {
		lay(image)
	}
	for _, lay := range p.pending {
		lay(image, 32)
	}
	return image
}

// dice is a row of numbers that is the same at each run.
type dice uint64

func (r *dice) below(n int) int {
	*r = *r*6364136223846793005 + 1442695040888963407
	return int((uint64(*r) >> 33) % uint64(n))
}

func mustAgree(t *testing.T, d *Disk, p *past) {
	t.Helper()
	if d.Down() != p.down || d.Pending() != len(p.pending) || d.Len() != p.size {
		t.Fatalf("Down %v, Pending %d, Len %d; want %v, %d, %d", d.Down(), d.Pending(), d.Len(), p.down, len(p.pending), p.size)
	}
	for at, want := range p.image() {
		got, e := d.Read(at)
		if p.down && (e != api.ErrDown || len(got) != 0) || !p.down && (e != api.OK || !bytes.Equal(got, want)) {
			t.Fatalf("Read(%d) = %v, %d; want %v", at, got, e, want)
		}
	}
}

func TestP1_1_AsThePastTells(t *testing.T) {
	for seed := range 200 {
		r := dice(seed)
		d := New(4)
		p := &past{size: 4, left: -1}
		for range 60 {
			switch k := r.below(20); {
			case k < 12:
				at, b := r.below(6)-1, ramp(byte(r.below(200)))
				if r.below(10) == 0 {
					b = b[:r.below(33)]
				}
				mustBe(t, "Write", d.Write(at, b), p.write(at, b))
			case k < 14:
				mustBe(t, "Flush", d.Flush(), p.flush())
			case k < 16:
				n := r.below(6) - 1
				d.Limit(n)
				p.left = n
			case k < 18:
				d = d.Clone()
			default:
				keep := make([]int, r.below(8))
				for i := range keep {
					keep[i] = r.below(5) - 1
				}
				d.Crash(keep...)
				p.crash(keep)
			}
			mustAgree(t, d, p)
		}
	}
}
