package mark

import (
	"bytes"
	"fmt"
	"math"
	"math/rand"
	"testing"

	"postilion/api"
	"postilion/disk"
)

// sealed is what a sector tells.
type sealed struct {
	m           Mark
	part, parts int
	b           string
}

func (x sealed) String() string {
	return fmt.Sprintf("{%v %d of %d %q}", x.m, x.part, x.parts, x.b)
}

func (x sealed) seal(t *testing.T) []byte {
	t.Helper()
	s, e := Seal(x.m, x.part, x.parts, []byte(x.b))
	if e != api.OK {
		t.Fatalf("Seal(%v): error %d", x, e)
	}
	return s
}

func opened(s []byte) (sealed, api.Errno) {
	m, part, parts, b, e := Open(s)
	return sealed{m, part, parts, string(b)}, e
}

func mustOpen(t *testing.T, s []byte, want sealed) {
	t.Helper()
	if got, e := opened(s); e != api.OK || got != want {
		t.Errorf("Open(%v) = %v, %d; want %v", s, got, e, want)
	}
}

func mustBeNone(t *testing.T, s []byte) {
	t.Helper()
	if got, e := opened(s); e != api.ErrForm || got != (sealed{}) {
		t.Errorf("Open(%v) = %v, %d; want nothing and ErrForm", s, got, e)
	}
}

// text makes n bytes of which none is 0 and no two are alike.
func text(n int) string {
	b := make([]byte, n)
	for i := range b {
		b[i] = byte(0xa0 + i)
	}
	return string(b)
}

// whole is a sector in which no field is like another.
var whole = sealed{Mark{0x1122, 0x334455}, 0x66, 0x77, text(19)}

func TestP2_1_SealLaysOutItsBytes(t *testing.T) {
	cases := []struct {
		x    sealed
		want []byte
	}{
		{
			sealed{Mark{}, 0, 1, ""},
			[]byte{0, 0, 0, 0, 0, 0, 1, 0, 0, 0, 0, 0, 0, 0, 0, 0, 0, 0, 0, 0, 0, 0, 0, 0, 0, 0, 0, 0, 0, 0, 0, 0},
		},
		{
			sealed{Mark{0x0102, 0x030405}, 6, 7, "hi"},
			[]byte{1, 2, 3, 4, 5, 6, 7, 2, 'h', 'i', 0, 0, 0, 0, 0, 0, 0, 0, 0, 0, 0, 0, 0, 0, 0, 0, 0, 3, 4, 5, 1, 2},
		},
		{
			sealed{Mark{65535, 1<<24 - 1}, 254, 255, text(19)},
			[]byte{
				255, 255, 255, 255, 255, 254, 255, 19, 0xa0, 0xa1, 0xa2, 0xa3, 0xa4, 0xa5, 0xa6, 0xa7,
				0xa8, 0xa9, 0xaa, 0xab, 0xac, 0xad, 0xae, 0xaf, 0xb0, 0xb1, 0xb2, 255, 255, 255, 255, 255,
			},
		},
		{
			sealed{Mark{256, 65536}, 0, 255, "\x00"},
			[]byte{1, 0, 1, 0, 0, 0, 255, 1, 0, 0, 0, 0, 0, 0, 0, 0, 0, 0, 0, 0, 0, 0, 0, 0, 0, 0, 0, 1, 0, 0, 1, 0},
		},
	}
	for _, c := range cases {
		s := c.x.seal(t)
		if !bytes.Equal(s, c.want) {
			t.Errorf("Seal(%v) = %v, want %v", c.x, s, c.want)
		}
		mustOpen(t, c.want, c.x)
	}
}

func TestP2_1_SealAtItsEdges(t *testing.T) {
	cases := []struct {
		m           Mark
		part, parts int
		length      int
		want        api.Errno
	}{
		{Mark{0, 0}, 0, 1, 0, api.OK},
		{Mark{65535, 0}, 0, 1, 0, api.OK},
		{Mark{0, 1<<24 - 1}, 0, 1, 0, api.OK},
		{Mark{0, 0}, 254, 255, 0, api.OK},
		{Mark{0, 0}, 0, 255, 0, api.OK},
		{Mark{0, 0}, 0, 1, 19, api.OK},
		{Mark{-1, 0}, 0, 1, 0, api.ErrArg},
		{Mark{65536, 0}, 0, 1, 0, api.ErrArg},
		{Mark{0, -1}, 0, 1, 0, api.ErrArg},
		{Mark{0, 1 << 24}, 0, 1, 0, api.ErrArg},
		{Mark{math.MinInt, 0}, 0, 1, 0, api.ErrArg},
		{Mark{math.MaxInt, 0}, 0, 1, 0, api.ErrArg},
		{Mark{0, math.MinInt}, 0, 1, 0, api.ErrArg},
		{Mark{0, math.MaxInt}, 0, 1, 0, api.ErrArg},
		{Mark{0, 0}, -1, 1, 0, api.ErrArg},
		{Mark{0, 0}, math.MinInt, 1, 0, api.ErrArg},
		{Mark{0, 0}, 0, 0, 0, api.ErrArg},
		{Mark{0, 0}, 0, -1, 0, api.ErrArg},
		{Mark{0, 0}, -2, -1, 0, api.ErrArg},
		{Mark{0, 0}, 1, 1, 0, api.ErrArg},
		{Mark{0, 0}, 255, 255, 0, api.ErrArg},
		{Mark{0, 0}, 0, 256, 0, api.ErrArg},
		{Mark{0, 0}, 255, 256, 0, api.ErrArg},
		{Mark{0, 0}, 0, math.MaxInt, 0, api.ErrArg},
		{Mark{0, 0}, math.MaxInt, math.MaxInt, 0, api.ErrArg},
		{Mark{0, 0}, 0, 1, 20, api.ErrArg},
		{Mark{0, 0}, 0, 1, 256, api.ErrArg},
		{Mark{-1, -1}, -1, 256, 20, api.ErrArg},
	}
	for _, c := range cases {
		s, e := Seal(c.m, c.part, c.parts, make([]byte, c.length))
		if e != c.want {
			t.Errorf("%v: error %d", c, e)
		}
		if e == api.OK && len(s) != 32 || e != api.OK && len(s) != 0 {
			t.Errorf("%v: %d bytes beside error %d", c, len(s), e)
		}
	}
}

func TestP2_1_OpenTellsWhatWasSealed(t *testing.T) {
	for n := range 20 {
		x := sealed{Mark{n, 65536 + n}, n, n + 1, text(n)}
		mustOpen(t, x.seal(t), x)
		x.b = string(make([]byte, n))
		mustOpen(t, x.seal(t), x)
	}
	random := rand.New(rand.NewSource(2))
	for range 5000 {
		b := make([]byte, random.Intn(20))
		random.Read(b)
		parts := 1 + random.Intn(255)
		x := sealed{Mark{random.Intn(65536), random.Intn(1 << 24)}, random.Intn(parts), parts, string(b)}
		mustOpen(t, x.seal(t), x)
	}
}

func TestP2_1_OpenRefusesOtherLengths(t *testing.T) {
	s := whole.seal(t)
	mustBeNone(t, nil)
	for n := range 32 {
		mustBeNone(t, s[:n])
	}
	mustBeNone(t, append(bytes.Clone(s), 0))
	mustBeNone(t, append(bytes.Clone(s), s...))
	mustBeNone(t, make([]byte, 32))
	mustBeNone(t, bytes.Repeat([]byte{255}, 32))
}

// Each byte of the mark, at both ends, in each of its bits.
func TestP2_1_OpenRefusesUnlikeMarks(t *testing.T) {
	s := whole.seal(t)
	for _, at := range []int{0, 1, 2, 3, 4, 27, 28, 29, 30, 31} {
		for bit := range 8 {
			x := bytes.Clone(s)
			x[at] ^= 1 << bit
			mustBeNone(t, x)
		}
	}
}

func TestP2_1_OpenAsksForAPartThatMayBe(t *testing.T) {
	s := whole.seal(t)
	for part := range 256 {
		for parts := range 256 {
			s[5], s[6] = byte(part), byte(parts)
			x := whole
			x.part, x.parts = part, parts
			if part < parts {
				mustOpen(t, s, x)
			} else {
				mustBeNone(t, s)
			}
		}
	}
}

func TestP2_1_OpenAsksForALengthAndZerosBehind(t *testing.T) {
	for n := range 20 {
		x := whole
		x.b = text(n)
		s := x.seal(t)
		for at := 8 + n; at < 27; at++ {
			c := bytes.Clone(s)
			c[at] = 1
			mustBeNone(t, c)
		}
		for length := range 256 {
			c := bytes.Clone(s)
			c[7] = byte(length)
			if length < n || length > 19 {
				mustBeNone(t, c)
				continue
			}
			y := x
			y.b += string(make([]byte, length-n))
			mustOpen(t, c, y)
		}
	}
}

// What Open takes is what Seal makes, and nothing else.
func TestP2_1_OpenTakesOnlySeals(t *testing.T) {
	random := rand.New(rand.NewSource(3))
	good, none := 0, 0
	for range 20000 {
		x := sealed{Mark{random.Intn(3), random.Intn(3)}, 0, 1 + random.Intn(3), text(random.Intn(20))}
		s := x.seal(t)
		for range random.Intn(3) {
			s[random.Intn(32)] = byte(random.Intn(3))
		}
		got, e := opened(s)
		if e != api.OK {
			mustBeNone(t, s)
			none++
			continue
		}
		good++
		if !bytes.Equal(got.seal(t), s) {
			t.Fatalf("Open(%v) = %v, whose Seal is another", s, got)
		}
	}
	if good == 0 || none == 0 {
		t.Errorf("%d good, %d none", good, none)
	}
}

func TestR4_SealKeepsOffWhatIsHandedIn(t *testing.T) {
	memory := []byte(text(24))
	b := memory[:5]
	s, e := Seal(Mark{1, 2}, 0, 1, b)
	if e != api.OK || string(memory) != text(24) {
		t.Fatalf("error %d, memory %v", e, memory)
	}
	want := bytes.Clone(s)
	clear(memory)
	if !bytes.Equal(s, want) {
		t.Error("what Seal answered changes with what it was given")
	}
	clear(s)
	if again, _ := Seal(Mark{1, 2}, 0, 1, []byte(text(5))); !bytes.Equal(again, want) {
		t.Error("Seal answered memory that it had answered before")
	}
}

func TestR4_OpenKeepsOffWhatIsHandedIn(t *testing.T) {
	for _, n := range []int{0, 5, 19} {
		x := sealed{Mark{1, 2}, 0, 1, text(n)}
		memory := append(x.seal(t), text(24)...)
		before := bytes.Clone(memory)
		_, _, _, b, e := Open(memory[:32])
		if e != api.OK || !bytes.Equal(memory, before) {
			t.Fatalf("error %d, memory %v", e, memory)
		}
		clear(b)
		_ = append(b, text(24)...)
		if !bytes.Equal(memory, before) {
			t.Error("what Open answered is the memory that it was given")
		}
	}
}

func TestR4_NilIsEmpty(t *testing.T) {
	a, e := Seal(Mark{1, 2}, 0, 1, nil)
	b, f := Seal(Mark{1, 2}, 0, 1, []byte{})
	if e != api.OK || f != api.OK || !bytes.Equal(a, b) {
		t.Errorf("%v, %d; %v, %d", a, e, b, f)
	}
	mustBeNone(t, []byte{})
}

// unlike makes sectors of n unlike marks: each differs from one other in a single bit.
func unlike(n int, random *rand.Rand) []sealed {
	list := make([]sealed, 0, n)
	seen := map[Mark]int{}
	m := Mark{random.Intn(65536), random.Intn(1 << 24)}
	for len(list) < n {
		if seen[m] == 0 {
			seen[m] = 1
			parts := 1 + random.Intn(255)
			list = append(list, sealed{m, random.Intn(parts), parts, text(random.Intn(20))})
		}
		if bit := random.Intn(40); bit < 16 {
			m.Epoch ^= 1 << bit
		} else {
			m.Seq ^= 1 << (bit - 16)
		}
	}
	return list
}

func TestP2_2_ATornSectorIsNone(t *testing.T) {
	for bit := range 40 {
		a, b := whole, whole
		b.b = "another"
		if bit < 16 {
			b.m.Epoch ^= 1 << bit
		} else {
			b.m.Seq ^= 1 << (bit - 16)
		}
		s, r := a.seal(t), b.seal(t)
		mustBeNone(t, append(bytes.Clone(s[:16]), r[16:]...))
		mustBeNone(t, append(bytes.Clone(r[:16]), s[16:]...))
	}
}

// Sectors written over one place of a disk that loses power: one of them stands there, or none.
func TestP2_2_OnADisk(t *testing.T) {
	random := rand.New(rand.NewSource(4))
	stood, none := 0, 0
	for range 3000 {
		list := unlike(2+random.Intn(4), random)
		d := disk.New(1)
		d.Write(0, list[0].seal(t))
		d.Flush()
		keep := []int{}
		for _, x := range list[1:] {
			d.Write(0, x.seal(t))
			keep = append(keep, random.Intn(3))
		}
		d.Crash(keep...)
		s, _ := d.Read(0)
		got, e := opened(s)
		if e != api.OK {
			mustBeNone(t, s)
			none++
			continue
		}
		stood++
		if want := standing(list, keep); got != want {
			t.Fatalf("%v under %v: %v stands there, want %v", list, keep, got, want)
		}
	}
	if stood == 0 || none == 0 {
		t.Errorf("%d stood, %d none", stood, none)
	}
}

// standing is the last of the list that was kept whole: only it can stand whole.
func standing(list []sealed, keep []int) sealed {
	x := list[0]
	for i, k := range keep {
		if k == 2 {
			x = list[i+1]
		}
	}
	return x
}
