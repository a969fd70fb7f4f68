package frame

import (
	"bytes"
	"fmt"
	"hash/crc32"
	"math"
	"math/rand"
	"slices"
	"testing"

	"postilion/api"
	"postilion/disk"
	"postilion/mark"
)

var (
	one   = mark.Mark{Epoch: 0x0102, Seq: 0x030405}
	other = mark.Mark{Epoch: 0x0102, Seq: 0x030406}
)

// text makes n bytes in which no two parts of a record are alike.
func text(n int) []byte {
	b := make([]byte, n)
	for i := range b {
		b[i] = byte(1 + i%251)
	}
	return b
}

// record is what Read tells.
type record struct {
	m    mark.Mark
	b    string
	next int
}

func (x record) String() string {
	return fmt.Sprintf("{%v %d bytes %.20q, next %d}", x.m, len(x.b), x.b, x.next)
}

func read(d *disk.Disk, at, end int) (record, api.Errno) {
	m, b, next, e := Read(d, at, end)
	return record{m, string(b), next}, e
}

func mustRead(t *testing.T, d *disk.Disk, at, end int, want record) {
	t.Helper()
	if got, e := read(d, at, end); e != api.OK || got != want {
		t.Errorf("Read(%d, %d) = %v, %d; want %v", at, end, got, e, want)
	}
}

func mustRefuse(t *testing.T, d *disk.Disk, at, end int, want api.Errno) {
	t.Helper()
	if got, e := read(d, at, end); e != want || got != (record{}) {
		t.Errorf("Read(%d, %d) = %v, %d; want nothing and error %d", at, end, got, e, want)
	}
}

func mustWrite(t *testing.T, d *disk.Disk, at int, m mark.Mark, b []byte, want int) {
	t.Helper()
	if next, e := Write(d, at, m, b); e != api.OK || next != want {
		t.Fatalf("Write(%d, %v, %d bytes) = %d, %d; want %d", at, m, len(b), next, e, want)
	}
}

// put seals one part by hand and writes it.
func put(t *testing.T, d *disk.Disk, at int, m mark.Mark, part, parts int, b []byte) {
	t.Helper()
	s, e := mark.Seal(m, part, parts, b)
	if e != api.OK {
		t.Fatalf("Seal(%v, %d, %d, %v): error %d", m, part, parts, b, e)
	}
	if e := d.Write(at, s); e != api.OK {
		t.Fatalf("Write(%d): error %d", at, e)
	}
}

// summed is a record's bytes.
func summed(b []byte) []byte {
	x := crc32.ChecksumIEEE(b)
	return append([]byte{byte(x >> 24), byte(x >> 16), byte(x >> 8), byte(x)}, b...)
}

// all reads each sector of a disk that has power.
func all(d *disk.Disk) [][]byte {
	list := [][]byte{}
	for at := range d.Len() {
		s, _ := d.Read(at)
		list = append(list, s)
	}
	return list
}

func same(a, b [][]byte) bool {
	return slices.EqualFunc(a, b, bytes.Equal)
}

func TestP3_1_Sum(t *testing.T) {
	for s, want := range map[string]uint32{
		"": 0, "\x00": 0xD202EF8D, "a": 0xE8B7BE43, "abc": 0x352441C2, "123456789": 0xCBF43926,
		"\xff\xff\xff\xff": 0xFFFFFFFF, "The quick brown fox jumps over the lazy dog": 0x414FA339,
	} {
		if got := Sum([]byte(s)); got != want {
			t.Errorf("Sum(%q) = %x, want %x", s, got, want)
		}
	}
	for c := range 256 {
		if b := []byte{byte(c)}; Sum(b) != crc32.ChecksumIEEE(b) {
			t.Errorf("Sum(%v) = %x", b, Sum(b))
		}
	}
	random := rand.New(rand.NewSource(1))
	for n := range 300 {
		b := make([]byte, n)
		random.Read(b)
		if got, want := Sum(b), crc32.ChecksumIEEE(b); got != want {
			t.Fatalf("Sum(%v) = %x, want %x", b, got, want)
		}
	}
}

func TestP3_1_Need(t *testing.T) {
	if Need(nil) != 1 || Need([]byte{}) != 1 {
		t.Error("nothing needs another number of sectors than 1")
	}
	for n := range 6000 {
		want := 1
		for want*19 < n+4 {
			want++
		}
		if got := Need(make([]byte, n)); got != want {
			t.Fatalf("Need of %d bytes = %d, want %d", n, got, want)
		}
	}
}

func TestP3_1_WriteLaysOutARecord(t *testing.T) {
	for _, n := range []int{0, 1, 14, 15, 16, 33, 34, 35, 100, 4840, 4841} {
		b := text(n)
		whole := summed(b)
		parts := (n + 4 + 18) / 19
		d := disk.New(parts + 3)
		before := all(d)
		mustWrite(t, d, 2, one, b, 2+parts)
		if d.Pending() != parts {
			t.Errorf("%d bytes: %d writes pending, want %d", n, d.Pending(), parts)
		}
		for i := range parts {
			want, _ := mark.Seal(one, i, parts, whole[19*i:min(19*i+19, len(whole))])
			if got, _ := d.Read(2 + i); !bytes.Equal(got, want) {
				t.Errorf("%d bytes: part %d is %v, want %v", n, i, got, want)
			}
		}
		after := all(d)
		if !same(after[:2], before[:2]) || !same(after[2+parts:], before[2+parts:]) {
			t.Errorf("%d bytes: a sector beside the record has changed", n)
		}
		mustRead(t, d, 2, d.Len(), record{one, string(b), 2 + parts})
	}
}

// Parts are written from the first to the last: that is what a cut leaves.
func TestP3_1_WriteGoesPartByPart(t *testing.T) {
	b := text(80)
	full := disk.New(6)
	mustWrite(t, full, 1, one, b, 6)
	for limit := range 5 {
		d := disk.New(6)
		d.Limit(limit)
		if next, e := Write(d, 1, one, b); next != 0 || e != api.ErrDown {
			t.Errorf("Limit(%d): %d, %d", limit, next, e)
		}
		if !d.Down() || d.Pending() != limit {
			t.Errorf("Limit(%d): down %v, %d pending", limit, d.Down(), d.Pending())
		}
		mustRefuse(t, d, 1, 6, api.ErrDown)
		d.Crash(2, 2, 2, 2, 2)
		if got := all(d); !same(got[:1+limit], all(full)[:1+limit]) || !same(got[1+limit:], all(disk.New(5-limit))) {
			t.Errorf("Limit(%d): what was written is %v", limit, got)
		}
		mustRefuse(t, d, 1, 6, api.ErrForm)
	}
	d := disk.New(6)
	d.Limit(5)
	mustWrite(t, d, 1, one, b, 6)
	if d.Down() {
		t.Error("Write wrote more than its parts")
	}
}

func TestP3_1_WriteRefuses(t *testing.T) {
	bad := []mark.Mark{
		{Epoch: -1}, {Epoch: 65536}, {Seq: -1}, {Seq: 1 << 24},
		{Epoch: math.MinInt}, {Epoch: math.MaxInt}, {Seq: math.MinInt}, {Seq: math.MaxInt},
	}
	cases := []struct {
		at   int
		m    mark.Mark
		n    int
		want api.Errno
	}{
		{0, one, 4842, api.ErrArg},
		{0, one, 100000, api.ErrArg},
		{-1, one, 4842, api.ErrArg},
		{math.MaxInt, one, 4842, api.ErrArg},
		{0, one, 4841, api.ErrRange},
		{0, one, 111, api.ErrRange},
		{1, one, 110, api.ErrRange},
		{5, one, 16, api.ErrRange},
		{6, one, 0, api.ErrRange},
		{7, one, 0, api.ErrRange},
		{-1, one, 0, api.ErrRange},
		{-1, one, 16, api.ErrRange},
		{math.MinInt, one, 0, api.ErrRange},
		{math.MaxInt, one, 0, api.ErrRange},
		{math.MaxInt - 1, one, 40, api.ErrRange},
		{math.MaxInt, one, 4841, api.ErrRange},
	}
	for _, c := range cases {
		mustNotWrite(t, c.at, c.m, c.n, c.want)
	}
	for _, m := range bad {
		for _, at := range []int{0, -1, 6, math.MaxInt} {
			for _, n := range []int{0, 40, 111, 4842} {
				mustNotWrite(t, at, m, n, api.ErrArg)
			}
		}
	}
}

// mustNotWrite asks for a refusal with nothing changed, on a disk of 6 sectors, with power and without.
func mustNotWrite(t *testing.T, at int, m mark.Mark, n int, want api.Errno) {
	t.Helper()
	d := disk.New(6)
	mustWrite(t, d, 0, one, text(30), 2)
	d.Limit(0)
	before := all(d)
	if next, e := Write(d, at, m, text(n)); next != 0 || e != want {
		t.Errorf("Write(%d, %v, %d bytes) = %d, %d; want error %d", at, m, n, next, e, want)
	}
	if d.Down() || d.Pending() != 2 || !same(all(d), before) {
		t.Errorf("Write(%d, %v, %d bytes) is refused, but has done something", at, m, n)
	}
	d.Write(0, make([]byte, api.Sector))
	if next, e := Write(d, at, m, text(n)); next != 0 || e != want {
		t.Errorf("no power: Write(%d, %v, %d bytes) = %d, %d; want error %d", at, m, n, next, e, want)
	}
}

func TestP3_1_WriteAtItsEdges(t *testing.T) {
	for _, m := range []mark.Mark{{}, {Epoch: 65535}, {Seq: 1<<24 - 1}, {Epoch: 65535, Seq: 1<<24 - 1}} {
		d := disk.New(6)
		mustWrite(t, d, 5, m, nil, 6)
		mustRead(t, d, 5, 6, record{m, "", 6})
		mustWrite(t, d, 0, m, text(110), 6)
		mustRead(t, d, 0, 6, record{m, string(text(110)), 6})
	}
	d := disk.New(255)
	mustWrite(t, d, 0, one, text(4841), 255)
	mustRead(t, d, 0, 255, record{one, string(text(4841)), 255})
	mustRefuse(t, d, 0, 254, api.ErrForm)
	d = disk.New(1024)
	mustWrite(t, d, 1023, one, []byte("x"), 1024)
	mustRead(t, d, 1023, 1024, record{one, "x", 1024})
	none := disk.New(0)
	if next, e := Write(none, 0, one, nil); next != 0 || e != api.ErrRange {
		t.Errorf("Write on no sectors = %d, %d", next, e)
	}
	mustRefuse(t, none, 0, 0, api.ErrRange)
	mustRefuse(t, none, 0, 1, api.ErrRange)
}

func TestP3_1_ReadKeepsToItsBounds(t *testing.T) {
	d := disk.New(6)
	mustWrite(t, d, 0, one, text(40), 3)
	mustWrite(t, d, 3, other, text(5), 4)
	for end := 3; end <= 6; end++ {
		mustRead(t, d, 0, end, record{one, string(text(40)), 3})
	}
	for end := 4; end <= 6; end++ {
		mustRead(t, d, 3, end, record{other, string(text(5)), 4})
	}
	for _, c := range [][2]int{{0, 1}, {0, 2}, {1, 6}, {2, 6}, {1, 3}, {2, 3}, {4, 5}, {4, 6}, {5, 6}} {
		mustRefuse(t, d, c[0], c[1], api.ErrForm)
	}
	for _, c := range [][2]int{
		{0, 0}, {3, 3}, {3, 0}, {1, 0}, {5, 3}, {6, 6}, {0, -1}, {-2, -1}, {-1, 6}, {-1, 0},
		{0, 7}, {3, 7}, {5, 7}, {6, 7}, {7, 8}, {0, math.MaxInt}, {0, math.MinInt},
		{math.MinInt, 6}, {math.MinInt, math.MaxInt}, {math.MaxInt, math.MinInt}, {math.MaxInt, math.MaxInt},
		{math.MaxInt - 1, math.MaxInt}, {math.MaxInt, 6},
	} {
		mustRefuse(t, d, c[0], c[1], api.ErrRange)
	}
	d.Limit(0)
	d.Write(0, make([]byte, api.Sector))
	mustRefuse(t, d, 0, 6, api.ErrDown)
	mustRefuse(t, d, 5, 6, api.ErrDown)
	mustRefuse(t, d, 0, 7, api.ErrRange)
	mustRefuse(t, d, 2, 2, api.ErrRange)
	mustRefuse(t, d, -1, 6, api.ErrRange)
}

// Each sector of a record of three, under each thing that may be wrong with it.
func TestP3_1_ReadRefusesWhatIsNoRecord(t *testing.T) {
	b := text(40)
	whole := summed(b)
	pieces := [][]byte{whole[:19], whole[19:38], whole[38:]}
	for at, x := range pieces {
		flipped := bytes.Clone(x)
		flipped[len(x)-1] ^= 0x80
		spoils := []func(d *disk.Disk){
			func(d *disk.Disk) { d.Write(at, make([]byte, 32)) },
			func(d *disk.Disk) { d.Write(at, bytes.Repeat([]byte{255}, 32)) },
			func(d *disk.Disk) { put(t, d, at, other, at, 3, x) },
			func(d *disk.Disk) { put(t, d, at, mark.Mark{Epoch: one.Epoch + 1, Seq: one.Seq}, at, 3, x) },
			func(d *disk.Disk) { put(t, d, at, one, (at+1)%3, 3, x) },
			func(d *disk.Disk) { put(t, d, at, one, (at+2)%3, 3, x) },
			func(d *disk.Disk) { put(t, d, at, one, at, 4, x) },
			func(d *disk.Disk) { put(t, d, at, one, at, 255, x) },
			func(d *disk.Disk) { put(t, d, at, one, at, []int{1, 2, 5}[at], x) },
			func(d *disk.Disk) { put(t, d, at, one, at, 3, flipped) },
			func(d *disk.Disk) { put(t, d, at, one, at, 3, x[:len(x)-1]) },
			func(d *disk.Disk) { put(t, d, at, one, at, 3, nil) },
		}
		for i, spoil := range spoils {
			d := disk.New(8)
			mustWrite(t, d, 0, one, b, 3)
			mustRead(t, d, 0, 8, record{one, string(b), 3})
			spoil(d)
			before := all(d)
			mustRefuse(t, d, 0, 8, api.ErrForm)
			if t.Failed() {
				t.Fatalf("sector %d, spoil %d", at, i)
			}
			if !same(all(d), before) {
				t.Errorf("sector %d, spoil %d: Read has changed the disk", at, i)
			}
			put(t, d, at, one, at, 3, x)
			mustRead(t, d, 0, 8, record{one, string(b), 3})
		}
	}
}

// A Sum that is right does not make up for parts that are not full.
func TestP3_1_ReadAsksForFullParts(t *testing.T) {
	whole := summed(text(40))
	for cut := range 20 {
		for second := range 20 {
			last := len(whole) - cut - second
			if last < 0 || last > 19 {
				continue
			}
			d := disk.New(3)
			put(t, d, 0, one, 0, 3, whole[:cut])
			put(t, d, 1, one, 1, 3, whole[cut:cut+second])
			put(t, d, 2, one, 2, 3, whole[cut+second:])
			if cut == 19 && second == 19 {
				mustRead(t, d, 0, 3, record{one, string(text(40)), 3})
			} else {
				mustRefuse(t, d, 0, 3, api.ErrForm)
			}
		}
	}
}

// The chapter asks nothing of the last part's length: it may be empty.
func TestP3_1_ReadTakesAnEmptyLastPart(t *testing.T) {
	d := disk.New(3)
	put(t, d, 0, one, 0, 2, summed(text(15)))
	put(t, d, 1, one, 1, 2, nil)
	mustRead(t, d, 0, 3, record{one, string(text(15)), 2})
}

func TestP3_1_ReadAsksForASum(t *testing.T) {
	for n := range 4 {
		d := disk.New(1)
		put(t, d, 0, one, 0, 1, make([]byte, n))
		mustRefuse(t, d, 0, 1, api.ErrForm)
	}
	d := disk.New(1)
	put(t, d, 0, one, 0, 1, make([]byte, 4))
	mustRead(t, d, 0, 1, record{one, "", 1})
	whole := summed([]byte("abc"))
	for bit := range 8 * len(whole) {
		x := bytes.Clone(whole)
		x[bit/8] ^= 1 << (bit % 8)
		put(t, d, 0, one, 0, 1, x)
		mustRefuse(t, d, 0, 1, api.ErrForm)
	}
	slices.Reverse(whole[:4])
	put(t, d, 0, one, 0, 1, whole)
	mustRefuse(t, d, 0, 1, api.ErrForm)
}

func TestP3_1_RecordsBehindEachOther(t *testing.T) {
	random := rand.New(rand.NewSource(2))
	for range 50 {
		d := disk.New(256)
		want := []record{}
		for at := 0; ; {
			b := make([]byte, random.Intn(200))
			random.Read(b)
			m := mark.Mark{Epoch: random.Intn(65536), Seq: random.Intn(1 << 24)}
			next, e := Write(d, at, m, b)
			if e != api.OK {
				if e != api.ErrRange || at+Need(b) <= 256 {
					t.Fatalf("Write(%d, %d bytes): error %d", at, len(b), e)
				}
				break
			}
			want = append(want, record{m, string(b), next})
			at = next
		}
		at := 0
		for _, x := range want {
			mustRead(t, d, at, 256, x)
			at = x.next
		}
	}
}

// Over one record another is written, and the power goes: one of them is told, or none.
func TestP3_1_CutOffIsOldNewOrNone(t *testing.T) {
	random := rand.New(rand.NewSource(3))
	told := map[api.Errno]int{}
	for range 5000 {
		d := disk.New(8)
		before, after := make([]byte, random.Intn(149)), make([]byte, random.Intn(149))
		random.Read(before)
		random.Read(after)
		was, _ := Write(d, 0, one, before)
		d.Flush()
		if random.Intn(2) == 0 {
			d.Limit(random.Intn(9))
		}
		Write(d, 0, other, after)
		keep := make([]int, 8)
		for i := range keep {
			keep[i] = (random.Intn(8) + 4) / 5
		}
		if random.Intn(4) == 0 {
			keep = slices.Repeat([]int{2 * random.Intn(2)}, 8)
		}
		d.Crash(keep...)
		got, e := read(d, 0, 8)
		told[e]++
		if e == api.ErrForm && got == (record{}) {
			continue
		}
		if got != (record{one, string(before), was}) && got != (record{other, string(after), Need(after)}) {
			t.Fatalf("%v, %d stands there: neither the old nor the new one", got, e)
		}
	}
	if told[api.OK] == 0 || told[api.ErrForm] == 0 {
		t.Errorf("told: %v", told)
	}
}

func TestR4_WriteKeepsOffWhatIsHandedIn(t *testing.T) {
	for _, n := range []int{0, 5, 15, 40} {
		memory := text(100)
		d := disk.New(4)
		if _, e := Write(d, 0, one, memory[:n]); e != api.OK || !bytes.Equal(memory, text(100)) {
			t.Fatalf("error %d, memory %v", e, memory)
		}
		if Sum(memory[:n]) != Sum(text(n)) || !bytes.Equal(memory, text(100)) {
			t.Errorf("Sum reads or writes behind the length, memory %v", memory)
		}
		clear(memory)
		mustRead(t, d, 0, 4, record{one, string(text(n)), Need(text(n))})
	}
}

func TestR4_ReadHandsOutNewMemory(t *testing.T) {
	for _, n := range []int{0, 5, 40} {
		d := disk.New(4)
		mustWrite(t, d, 0, one, text(n), Need(text(n)))
		_, b, _, _ := Read(d, 0, 4)
		_, again, _, _ := Read(d, 0, 4)
		clear(b[:cap(b)])
		if !bytes.Equal(again, text(n)) {
			t.Errorf("two answers share memory: %v", again)
		}
		mustRead(t, d, 0, 4, record{one, string(text(n)), Need(text(n))})
	}
}

func TestR4_NilIsEmpty(t *testing.T) {
	a, b := disk.New(1), disk.New(1)
	mustWrite(t, a, 0, one, nil, 1)
	mustWrite(t, b, 0, one, []byte{}, 1)
	if !same(all(a), all(b)) || Sum(nil) != 0 {
		t.Error("nil is not as the empty list")
	}
}
