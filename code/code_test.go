package code

import (
	"bytes"
	"encoding/binary"
	"math"
	"math/rand"
	"slices"
	"strings"
	"testing"

	"postilion/api"
)

// Kinds that are made of the three, and are none of them.
type (
	number int
	words  string
	truth  bool
)

// pairs are values, and the bytes that they are.
var pairs = []struct {
	v []any
	b string
}{
	{nil, ""},
	{[]any{}, ""},
	{[]any{true}, "t"},
	{[]any{false}, "f"},
	{[]any{true, false, false, true}, "tfft"},
	{[]any{0}, "i\x00\x00\x00\x00\x00\x00\x00\x00"},
	{[]any{1}, "i\x00\x00\x00\x00\x00\x00\x00\x01"},
	{[]any{-1}, "i\xff\xff\xff\xff\xff\xff\xff\xff"},
	{[]any{-2}, "i\xff\xff\xff\xff\xff\xff\xff\xfe"},
	{[]any{255, 256}, "i\x00\x00\x00\x00\x00\x00\x00\xffi\x00\x00\x00\x00\x00\x00\x01\x00"},
	{[]any{0x0102030405060708}, "i\x01\x02\x03\x04\x05\x06\x07\x08"},
	{[]any{math.MaxInt64}, "i\x7f\xff\xff\xff\xff\xff\xff\xff"},
	{[]any{math.MinInt64}, "i\x80\x00\x00\x00\x00\x00\x00\x00"},
	{[]any{math.MinInt64 + 1}, "i\x80\x00\x00\x00\x00\x00\x00\x01"},
	{[]any{""}, "s\x00"},
	{[]any{"", ""}, "s\x00s\x00"},
	{[]any{"abc"}, "s\x03abc"},
	{[]any{"s\x01i", "t"}, "s\x03s\x01is\x01t"},
	{[]any{"\x00\xff\xfe"}, "s\x03\x00\xff\xfe"},
	{[]any{"\u00e4"}, "s\x02\xc3\xa4"},
	{[]any{strings.Repeat("y", 127)}, "s\x7f" + strings.Repeat("y", 127)},
	{[]any{strings.Repeat("y", 128)}, "s\x80" + strings.Repeat("y", 128)},
	{[]any{strings.Repeat("y", 254)}, "s\xfe" + strings.Repeat("y", 254)},
	{[]any{strings.Repeat("\xff", 255)}, "s\xff" + strings.Repeat("\xff", 255)},
	{[]any{"drop", 7, true, "", -1, false}, "s\x04dropi\x00\x00\x00\x00\x00\x00\x00\x07ts\x00i\xff\xff\xff\xff\xff\xff\xff\xfff"},
}

// others are of none of the three kinds.
func others() []any {
	n, s := 1, "x"
	return []any{
		nil, int8(1), int16(1), int32(1), int64(1), uint(1), uint8(1), uint16(1), uint32(1), uint64(1), uintptr(1),
		1.0, float32(1), 1i, 'x', []byte("x"), []rune{120}, []any{1}, []int{1}, [1]int{1}, map[string]int{},
		struct{}{}, &n, &s, (*int)(nil), error(nil), api.OK, api.ErrArg, number(1), words("x"), truth(true),
		func() {}, api.Head{},
	}
}

func mustEncode(t *testing.T, v []any, want string) {
	t.Helper()
	if b, e := Encode(v...); e != api.OK || string(b) != want {
		t.Errorf("Encode(%.60q) = %.60q, %d; want %.60q", v, b, e, want)
	}
}

func mustDecode(t *testing.T, b string, want []any) {
	t.Helper()
	if v, e := Decode([]byte(b)); e != api.OK || !slices.Equal(v, want) {
		t.Errorf("Decode(%.60q) = %.60q, %d; want %.60q", b, v, e, want)
	}
}

func mustNotEncode(t *testing.T, v ...any) {
	t.Helper()
	if b, e := Encode(v...); e != api.ErrArg || len(b) != 0 {
		t.Errorf("Encode(%.60v) = %.60q, %d; want nothing and ErrArg", v, b, e)
	}
}

func mustNotDecode(t *testing.T, b string) {
	t.Helper()
	if v, e := Decode([]byte(b)); e != api.ErrForm || len(v) != 0 {
		t.Errorf("Decode(%.60q) = %.60q, %d; want nothing and ErrForm", b, v, e)
	}
}

func TestEncode(t *testing.T) {
	for _, p := range pairs {
		mustEncode(t, p.v, p.b)
	}
}

func TestDecode(t *testing.T) {
	for _, p := range pairs {
		mustDecode(t, p.b, p.v)
	}
}

func TestOneBehindTheOther(t *testing.T) {
	for _, p := range pairs {
		for _, q := range pairs {
			v := slices.Concat(p.v, q.v)
			mustEncode(t, v, p.b+q.b)
			mustDecode(t, p.b+q.b, v)
		}
	}
}

func TestIntIsBigEndian(t *testing.T) {
	try := func(n int) {
		b := "i" + string(binary.BigEndian.AppendUint64(nil, uint64(n)))
		mustEncode(t, []any{n}, b)
		mustDecode(t, b, []any{n})
	}
	for digit := range 64 {
		for _, less := range []int{-1, 0, 1} {
			try(1<<digit + less)
			try(-(1 << digit) + less)
		}
	}
}

func TestStringsOfEveryLength(t *testing.T) {
	for n := range 256 {
		s := strings.Repeat("z", n)
		b := "s" + string([]byte{byte(n)}) + s
		mustEncode(t, []any{s, true}, b+"t")
		mustDecode(t, b+"t", []any{s, true})
	}
	for _, n := range []int{256, 257, 511, 512, 1 << 16, 1<<16 + 3} {
		mustNotEncode(t, strings.Repeat("z", n))
		mustNotEncode(t, strings.Repeat("z", n), "behind")
		mustNotEncode(t, "ahead", 1, true, strings.Repeat("z", n))
	}
	// 128 runes, but 256 bytes.
	mustNotEncode(t, strings.Repeat("\u00e4", 128))
	mustEncode(t, []any{strings.Repeat("\u00e4", 127)}, "s\xfe"+strings.Repeat("\u00e4", 127))
}

func TestEncodeOfOtherKinds(t *testing.T) {
	for _, x := range others() {
		mustNotEncode(t, x)
		mustNotEncode(t, x, 1)
		mustNotEncode(t, 1, "x", true, x)
		mustNotEncode(t, 1, x, "x")
	}
}

func TestDecodeOfNoEncode(t *testing.T) {
	for c := range 256 {
		if !strings.ContainsRune("isft", rune(c)) {
			first := string([]byte{byte(c)})
			mustNotDecode(t, first)
			mustNotDecode(t, first+"t")
			mustNotDecode(t, "t"+first)
			mustNotDecode(t, "s\x01x"+first+"s\x01x")
		}
	}
	for _, b := range []string{"i", "s", "ti", "ts", "s\x01", "s\x02a", "s\xff" + strings.Repeat("x", 254), "i1234567", "s\x00x", "i12345678i1234567"} {
		mustNotDecode(t, b)
	}
}

// A value that is cut off is none, and what is ahead of it isn't told.
func TestDecodeCutOffAnywhere(t *testing.T) {
	for _, p := range pairs {
		ends := map[int]int{0: 0} // where a value ends, and how many there are
		for k := range p.v {
			b, e := Encode(p.v[:k+1]...)
			if e != api.OK {
				t.Fatalf("Encode(%.60q): error %d", p.v[:k+1], e)
			}
			ends[len(b)] = k + 1
		}
		for n := range len(p.b) {
			if many, whole := ends[n]; whole {
				mustDecode(t, p.b[:n], p.v[:many])
			} else {
				mustNotDecode(t, p.b[:n])
			}
		}
	}
}

// valid tells, by another way than Decode's, whether b is bytes of values.
func valid(b []byte) bool {
	ends := make([]bool, len(b)+300)
	ends[0] = true
	for at, c := range b {
		switch {
		case !ends[at]:
		case c == 't' || c == 'f':
			ends[at+1] = true
		case c == 'i':
			ends[at+9] = true
		case c == 's' && at+1 < len(b):
			ends[at+2+int(b[at+1])] = true
		}
	}
	return ends[len(b)]
}

func checkAny(t *testing.T, b []byte) {
	t.Helper()
	v, e := Decode(b)
	if !valid(b) {
		if e != api.ErrForm || len(v) != 0 {
			t.Fatalf("Decode(%q) = %q, %d; want nothing and ErrForm", b, v, e)
		}
		return
	}
	if e != api.OK {
		t.Fatalf("Decode(%q): error %d", b, e)
	}
	if again, e := Encode(v...); e != api.OK || !bytes.Equal(again, b) {
		t.Fatalf("Encode(Decode(%q)) = %q, %d", b, again, e)
	}
}

func TestDecodeOfAllShortBytes(t *testing.T) {
	const letters = "istf\x00\x01\x02x"
	b := []byte{}
	var each func(left int)
	each = func(left int) {
		checkAny(t, b)
		if left == 0 {
			return
		}
		for i := range len(letters) {
			b = append(b, letters[i])
			each(left - 1)
			b = b[:len(b)-1]
		}
	}
	each(5)
}

func TestDecodeOfManyBytes(t *testing.T) {
	const letters = "iisstf\x00\x01\x05\x09"
	chance := rand.New(rand.NewSource(5))
	for range 50000 {
		b := make([]byte, chance.Intn(40))
		for i := range b {
			b[i] = letters[chance.Intn(len(letters))]
		}
		checkAny(t, b)
	}
}

func TestManyValues(t *testing.T) {
	chance := rand.New(rand.NewSource(7))
	for range 2000 {
		v := make([]any, chance.Intn(30))
		for k := range v {
			switch chance.Intn(3) {
			case 0:
				v[k] = int(chance.Uint64())
			case 1:
				s := make([]byte, chance.Intn(256))
				chance.Read(s)
				v[k] = string(s)
			case 2:
				v[k] = chance.Intn(2) == 0
			}
		}
		b, e := Encode(v...)
		if e != api.OK {
			t.Fatalf("Encode(%.60q): error %d", v, e)
		}
		mustDecode(t, string(b), v)
	}
}

func TestLong(t *testing.T) {
	const n = 200000
	v := make([]any, n)
	for k := range v {
		v[k] = k%2 == 0
	}
	mustEncode(t, v, strings.Repeat("tf", n/2))
	mustDecode(t, strings.Repeat("tf", n/2), v)
}

// places are asked of a list of n values: all that there are, and none.
func places(n int) []int {
	list := []int{math.MinInt, math.MinInt + 1, -n - 1, -n, -2, -1, n, n + 1, 2 * n, math.MaxInt - 1, math.MaxInt}
	for k := range n {
		list = append(list, k)
	}
	return list
}

func TestIntTextFlag(t *testing.T) {
	lists := [][]any{nil, {}, others(), {7, "seven", true}, {0, "", false}, {math.MinInt, math.MaxInt, -1}, {strings.Repeat("x", 300), true, 1, false, "a"}}
	for _, v := range lists {
		for _, k := range places(len(v)) {
			n, s, f, kind := 0, "", false, ""
			if k >= 0 && k < len(v) {
				switch x := v[k].(type) {
				case int:
					n, kind = x, "int"
				case string:
					s, kind = x, "string"
				case bool:
					f, kind = x, "bool"
				}
			}
			if got, ok := Int(v, k); got != n || ok != (kind == "int") {
				t.Errorf("Int(%.60v, %d) = %d, %t", v, k, got, ok)
			}
			if got, ok := Text(v, k); got != s || ok != (kind == "string") {
				t.Errorf("Text(%.60v, %d) = %q, %t", v, k, got, ok)
			}
			if got, ok := Flag(v, k); got != f || ok != (kind == "bool") {
				t.Errorf("Flag(%.60v, %d) = %t, %t", v, k, got, ok)
			}
		}
	}
}

func panics(do func()) (did bool) {
	defer func() { did = recover() != nil }()
	do()
	return false
}

func TestMust(t *testing.T) {
	for _, v := range [][]any{nil, {}, others(), {7, "seven", true}, {0, "", false}, {math.MinInt, math.MaxInt, strings.Repeat("x", 300)}} {
		for _, k := range places(len(v)) {
			n, isInt := Int(v, k)
			got := 0
			if did := panics(func() { got = MustInt(v, k) }); did == isInt || got != n {
				t.Errorf("MustInt(%.60v, %d) = %d, panics: %t; Int tells %d, %t", v, k, got, did, n, isInt)
			}
			s, isText := Text(v, k)
			said := ""
			if did := panics(func() { said = MustText(v, k) }); did == isText || said != s {
				t.Errorf("MustText(%.60v, %d) = %q, panics: %t; Text tells %q, %t", v, k, said, did, s, isText)
			}
		}
	}
}

// A place behind the length is none, whatever lies there in the memory.
func TestBehindTheLength(t *testing.T) {
	all := []any{1, "a", true, 2, "b", false}
	v := all[:3]
	for k := 3; k < 6; k++ {
		_, isInt := Int(v, k)
		_, isText := Text(v, k)
		_, isFlag := Flag(v, k)
		if isInt || isText || isFlag || !panics(func() { MustInt(v, k) }) || !panics(func() { MustText(v, k) }) {
			t.Errorf("place %d of a list of 3: %t %t %t", k, isInt, isText, isFlag)
		}
	}
	if b, e := Encode(v...); e != api.OK || string(b) != "i\x00\x00\x00\x00\x00\x00\x00\x01s\x01at" {
		t.Errorf("Encode = %q, %d", b, e)
	}
	if !slices.Equal(all, []any{1, "a", true, 2, "b", false}) {
		t.Errorf("the list is now %v", all)
	}
	whole := []byte("s\x02abt")
	if v, e := Decode(whole[:3]); e != api.ErrForm || len(v) != 0 {
		t.Errorf("Decode = %v, %d; want nothing and ErrForm", v, e)
	}
	if v, e := Decode(whole[:4]); e != api.OK || !slices.Equal(v, []any{"ab"}) {
		t.Errorf("Decode = %v, %d", v, e)
	}
	if string(whole) != "s\x02abt" {
		t.Errorf("the bytes are now %q", whole)
	}
}

func TestMemory(t *testing.T) {
	given := []any{"abc", 5, true}
	first, _ := Encode(given...)
	second, _ := Encode(given...)
	if !slices.Equal(given, []any{"abc", 5, true}) {
		t.Errorf("Encode made %v of what it was given", given)
	}
	kept := string(first)
	given[0], given[1] = "xyz", 6
	clear(second)
	if string(first) != kept {
		t.Errorf("what Encode told is now %q", first)
	}

	b := []byte("s\x03abcs\x02dei\x00\x00\x00\x00\x00\x00\x00\x05t")
	want := []any{"abc", "de", 5, true}
	one, _ := Decode(b)
	two, _ := Decode(b)
	clear(two)
	if string(b) != "s\x03abcs\x02dei\x00\x00\x00\x00\x00\x00\x00\x05t" {
		t.Errorf("Decode made %q of what it was given", b)
	}
	clear(b)
	if !slices.Equal(one, want) {
		t.Errorf("what Decode told is now %v", one)
	}
}

func FuzzDecode(f *testing.F) {
	for _, p := range pairs {
		f.Add([]byte(p.b))
	}
	f.Fuzz(func(t *testing.T, b []byte) { checkAny(t, b) })
}
