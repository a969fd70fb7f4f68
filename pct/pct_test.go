package pct

import (
	"fmt"
	"math/rand"
	"net/url"
	"strconv"
	"strings"
	"testing"
	"unicode/utf8"
	"unsafe"
)

func mustEncode(t *testing.T, s, want string) {
	t.Helper()
	if got := Encode(s); got != want {
		t.Errorf("Encode(%.60q) = %.60q; want %.60q", s, got, want)
	}
}

func mustDecode(t *testing.T, s, want string) {
	t.Helper()
	if got, ok := Decode(s); got != want || !ok {
		t.Errorf("Decode(%.60q) = %.60q, %t; want %.60q, true", s, got, ok, want)
	}
}

func mustNotDecode(t *testing.T, s string) {
	t.Helper()
	if got, ok := Decode(s); got != "" || ok {
		t.Errorf("Decode(%.60q) = %.60q, %t; want nothing and false", s, got, ok)
	}
}

func mustLower(t *testing.T, s, want string) {
	t.Helper()
	if got := Lower(s); got != want {
		t.Errorf("Lower(%.60q) = %.60q; want %.60q", s, got, want)
	}
}

func mustTrim(t *testing.T, s, want string) {
	t.Helper()
	if got := Trim(s); got != want {
		t.Errorf("Trim(%.60q) = %.60q; want %.60q", s, got, want)
	}
}

func TestEncode(t *testing.T) {
	for _, p := range [][2]string{
		{"", ""},
		{" ", "%20"},
		{"abc", "abc"},
		{"/a/b c/../d.e", "/a/b%20c/../d.e"},
		{"x=1&y=two words", "x=1&y=two%20words"},
		{"\x1f\x20\x21", "%1F%20!"},
		{"\x7e\x7f\u0080", "~%7F%C2%80"},
		{"\x00\t\n\r", "%00%09%0A%0D"},
		{"\"`#<>?{}", "%22%60%23%3C%3E%3F%7B%7D"},
		{"!$&'()*+,-./:;=@[\\]^_|~", "!$&'()*+,-./:;=@[\\]^_|~"},
		{"%", "%"},
		{"%%", "%%"},
		{"%20", "%20"},
		{"%2g%", "%2g%"},
		{"% 1", "%%201"},
		{"\u00e4\u00df", "%C3%A4%C3%9F"},
		{"a\u20acb", "a%E2%82%ACb"},
		{"\U0001f600", "%F0%9F%98%80"},
		{"\u007f\u0080\u07ff\u0800\uffff\U00010000\U0010ffff", "%7F%C2%80%DF%BF%E0%A0%80%EF%BF%BF%F0%90%80%80%F4%8F%BF%BF"},
	} {
		mustEncode(t, p[0], p[1])
	}
}

// The runes from 33 to 126 that are themselves, written out one by one.
const themselves = "!$%&'()*+,-./0123456789:;=@ABCDEFGHIJKLMNOPQRSTUVWXYZ[\\]^_abcdefghijklmnopqrstuvwxyz|~"

func TestEncodeOfEveryRune(t *testing.T) {
	if n := len(themselves); n != 126-33+1-8 {
		t.Fatalf("%d runes are themselves", n)
	}
	for r := rune(0); r <= utf8.MaxRune; r++ {
		s := string(r) // of a surrogate: U+FFFD
		want := s
		if !strings.Contains(themselves, s) {
			want = ""
			for _, c := range []byte(s) {
				want += fmt.Sprintf("%%%02X", c)
			}
		}
		if got := Encode(s); got != want {
			t.Fatalf("Encode(%q) = %q; want %q", s, got, want)
		}
	}
}

func TestEncodeOfNoRunes(t *testing.T) {
	const no = "%EF%BF%BD"
	mustEncode(t, "\ufffd", no)
	for c := 0x80; c <= 0xff; c++ {
		s := string([]byte{byte(c)})
		mustEncode(t, s, no)
		mustEncode(t, "a"+s+"b", "a"+no+"b")
		mustEncode(t, s+s, no+no)
	}
	for _, p := range []struct {
		s    string
		many int // how many times it is no rune
	}{
		{"\xc3", 1}, {"\xe2\x82", 2}, {"\xf0\x9f\x98", 3}, // cut off
		{"\xc0\x80", 2}, {"\xc1\xbf", 2}, {"\xe0\x80\x80", 3}, {"\xf0\x80\x80\x80", 4}, // longer than need be
		{"\xed\xa0\x80", 3}, {"\xed\xbf\xbf", 3}, // surrogates
		{"\xf4\x90\x80\x80", 4}, {"\xf8\x88\x80\x80\x80", 5}, // past the last rune
		{"\x80\xbf", 2}, {"\xff\xfe", 2},
	} {
		want := strings.Repeat(no, p.many)
		mustEncode(t, p.s, want)
		mustEncode(t, " "+p.s+"x", "%20"+want+"x")
		mustEncode(t, "\u00e4"+p.s+"\u00e4", "%C3%A4"+want+"%C3%A4")
	}
	mustEncode(t, "\xc3a", no+"a")
	mustEncode(t, "\xe2\x82\u00e4", no+no+"%C3%A4")
}

func TestDecode(t *testing.T) {
	for _, p := range [][2]string{
		{"", ""},
		{"abc", "abc"},
		{"a%20b", "a b"},
		{"%41", "A"},
		{"%25", "%"},
		{"%2541", "%41"},
		{"%25%34%31", "%41"},
		{"%c3%A4", "\u00e4"},
		{"%fF%Ff%ff%FF", "\xff\xff\xff\xff"},
		{"%00", "\x00"},
		{"%0000", "\x0000"},
		{"%41%42c%44", "ABcD"},
		{"%3F?#<>{}\"` +", "??#<>{}\"` +"},
		{"\x00\x1f\x7f\xff\xc3", "\x00\x1f\x7f\xff\xc3"},
		{"\u00e4%e2%82%ac\U0001f600", "\u00e4\u20ac\U0001f600"},
		{"\xe2%82\xac", "\u20ac"},
	} {
		mustDecode(t, p[0], p[1])
	}
}

func TestDecodeOfEveryByte(t *testing.T) {
	for c := range 256 {
		want := string([]byte{byte(c)})
		if c != '%' {
			mustDecode(t, want, want)
			mustDecode(t, "%2B"+want+want, "+"+want+want)
		}
		for _, form := range []string{"%02x", "%02X"} {
			two := fmt.Sprintf(form, c)
			mustDecode(t, "%"+two, want)
			mustDecode(t, "1%"+two+"2", "1"+want+"2")
			mixed := strings.ToUpper(two[:1]) + strings.ToLower(two[1:])
			mustDecode(t, "%"+mixed, want)
			mixed = strings.ToLower(two[:1]) + strings.ToUpper(two[1:])
			mustDecode(t, "%"+mixed, want)
		}
	}
}

func TestDecodeOfEveryTwoBytes(t *testing.T) {
	for a := range 256 {
		for b := range 256 {
			two := string([]byte{byte(a), byte(b)})
			if c, err := strconv.ParseUint(two, 16, 8); err == nil {
				mustDecode(t, "%"+two, string([]byte{byte(c)}))
			} else {
				mustNotDecode(t, "%"+two)
				mustNotDecode(t, "xy%"+two+"zz")
			}
		}
	}
}

func TestDecodeOfWrong(t *testing.T) {
	for _, s := range []string{
		"%", "%%", "%%%", "%1", "%a", "%F", "a%", "a%1", "%20%", "%20%2", "%2%20", "%%20", "%2 0", "% 20",
		"%g0", "%0g", "%G0", "%0G", "%gg", "%/0", "%0/", "%:0", "%0:", "%@0", "%0@", "%`0", "%0`",
		"%+1", "%-1", "%0x", "%x0", "%1_", "%\x00\x00", "%1\x00", "%\xff1", "%4\u0661", "%\uff11\uff11", "%1\xff",
		"long enough and all well up to here%",
	} {
		mustNotDecode(t, s)
		mustNotDecode(t, "%41"+s)
		mustNotDecode(t, s+"%")
	}
	for _, s := range []string{"%g0", "%0g", "%%41", "%2 %20", "%zz"} {
		mustNotDecode(t, s+"%41 and more behind")
	}
}

func TestLower(t *testing.T) {
	for _, p := range [][2]string{
		{"", ""},
		{"ABCDEFGHIJKLMNOPQRSTUVWXYZ", "abcdefghijklmnopqrstuvwxyz"},
		{"abcdefghijklmnopqrstuvwxyz", "abcdefghijklmnopqrstuvwxyz"},
		{"@AZ[`az{", "@az[`az{"},
		{"HTTP://A.b:80/%3F", "http://a.b:80/%3f"},
		{"0123456789 \x00\x7f", "0123456789 \x00\x7f"},
		{"A\u00c4B\u0130C\u212aD\u0391", "a\u00c4b\u0130c\u212ad\u0391"},
		{"A\xffB\xc3", "a\xffb\xc3"},
		{"\xc3A\xe2\x82Z", "\xc3a\xe2\x82z"},
		{"\ufffdA", "\ufffda"},
	} {
		mustLower(t, p[0], p[1])
	}
	for c := range 256 {
		want := c
		if c >= 65 && c <= 90 {
			want = c + 32
		}
		mustLower(t, string([]byte{byte(c)}), string([]byte{byte(want)}))
		mustLower(t, string([]byte{'X', byte(c), 'Y'}), string([]byte{'x', byte(want), 'y'}))
	}
}

func TestTrim(t *testing.T) {
	for _, p := range [][2]string{
		{"", ""},
		{" ", ""},
		{"   ", ""},
		{"\x00\x01\x1f\x20", ""},
		{"a", "a"},
		{" a", "a"},
		{"a ", "a"},
		{" a b\tc ", "a b\tc"},
		{"\r\n\t x \x00 y \v\f", "x \x00 y"},
		{"!\x20!", "!\x20!"},
		{"\x7f \x7f", "\x7f \x7f"},
		{"\u00a0x\u00a0", "\u00a0x\u00a0"},
		{" \u2003x\u3000 ", "\u2003x\u3000"},
		{"\u0085x\u2028", "\u0085x\u2028"},
		{" \xff \xc3 ", "\xff \xc3"},
		{"\ufeff a", "\ufeff a"},
	} {
		mustTrim(t, p[0], p[1])
	}
}

func TestTrimOfEveryByte(t *testing.T) {
	for c := range 256 {
		s := string([]byte{byte(c)})
		if c > 32 {
			mustTrim(t, s, s)
			mustTrim(t, s+"a"+s, s+"a"+s)
			mustTrim(t, " "+s+" a "+s+"\x00", s+" a "+s)
			continue
		}
		mustTrim(t, s, "")
		mustTrim(t, s+s+s, "")
		mustTrim(t, s+"a", "a")
		mustTrim(t, "a"+s, "a")
		mustTrim(t, s+" a"+s+"b "+s, "a"+s+"b")
	}
}

// encoded is Encode by another way: first whole runes are made of all, then
// each byte is looked at.
func encoded(s string) string {
	out := ""
	for _, c := range []byte(whole(s)) {
		if strings.IndexByte(themselves, c) >= 0 {
			out += string(rune(c))
		} else {
			out += fmt.Sprintf("%%%02X", c)
		}
	}
	return out
}

// whole is s with U+FFFD in the place of each byte that is no rune.
func whole(s string) string {
	out := ""
	for len(s) > 0 {
		r, n := utf8.DecodeRuneInString(s)
		if r == utf8.RuneError && n == 1 {
			out += "\ufffd"
		} else {
			out += s[:n]
		}
		s = s[n:]
	}
	return out
}

// lowered is Lower by another way.
func lowered(s string) string {
	for c := byte('A'); c <= 'Z'; c++ {
		s = strings.ReplaceAll(s, string([]byte{c}), string([]byte{c + 32}))
	}
	return s
}

// checkAll holds each call against another way to its answer.
func checkAll(t *testing.T, s string) {
	t.Helper()
	mustEncode(t, s, encoded(s))
	if want, err := url.PathUnescape(s); err != nil {
		mustNotDecode(t, s)
	} else {
		mustDecode(t, s, want)
	}
	mustLower(t, s, lowered(s))
	mustTrim(t, s, strings.TrimFunc(s, func(r rune) bool { return r <= 32 }))

	// A percent sign that is encoded ahead of the others brings s back.
	if utf8.ValidString(s) {
		mustDecode(t, Encode(strings.ReplaceAll(s, "%", "%25")), s)
	}
	once := Encode(s)
	mustEncode(t, once, once)
}

func TestAllShortStrings(t *testing.T) {
	const letters = "%2aFgZ \x00\x7f\xc3\xa4#"
	b := []byte{}
	var each func(left int)
	each = func(left int) {
		checkAll(t, string(b))
		if left == 0 {
			return
		}
		for i := range len(letters) {
			b = append(b, letters[i])
			each(left - 1)
			b = b[:len(b)-1]
		}
	}
	each(4)
}

func TestManyStrings(t *testing.T) {
	chance := rand.New(rand.NewSource(6))
	pieces := []string{"%", "%41", "%e2", "%zz", "a", "Z", " ", "\x1f", "!", "~", "\x7f", "\u00e4", "\u20ac", "\U0001f600", "\xff", "\xe2\x82", "\"", "`", "{"}
	for range 20000 {
		s := ""
		for range chance.Intn(12) {
			if chance.Intn(3) == 0 {
				s += string([]byte{byte(chance.Intn(256))})
			} else {
				s += pieces[chance.Intn(len(pieces))]
			}
		}
		checkAll(t, s)
	}
}

func TestLong(t *testing.T) {
	const n = 1 << 20
	mustEncode(t, strings.Repeat(" a", n), strings.Repeat("%20a", n))
	mustDecode(t, strings.Repeat("%20a", n), strings.Repeat(" a", n))
	mustNotDecode(t, strings.Repeat("%20a", n)+"%2")
	mustLower(t, strings.Repeat("Aa", n), strings.Repeat("aa", n))
	mustTrim(t, strings.Repeat(" ", n)+"a"+strings.Repeat("\x00", n), "a")
	mustTrim(t, strings.Repeat(" ", n), "")
}

// What is answered shares no memory with what was handed in, and the same
// argument has the same answer again.
func TestMemory(t *testing.T) {
	decode := func(s string) string {
		got, _ := Decode(s)
		return got
	}
	for name, call := range map[string]func(string) string{"Encode": Encode, "Decode": decode, "Lower": Lower, "Trim": Trim} {
		given := "plain"
		got := call(given)
		if got != given || call(given) != got {
			t.Errorf("%s(%q) = %q, then %q", name, given, got, call(given))
		}
		if unsafe.StringData(got) == unsafe.StringData(given) {
			t.Errorf("%s answers the memory of its argument", name)
		}
	}
}

func FuzzAll(f *testing.F) {
	for _, s := range []string{"", " ", "%", "%4", "%41", "%gg", "A\xff\u00e4", "\x00a\x20", "\xe2\x82\xac%e2", "\"`#<>?{}"} {
		f.Add(s)
	}
	f.Fuzz(func(t *testing.T, s string) { checkAll(t, s) })
}
