package reply

import (
	"fmt"
	"math"
	"math/rand"
	"regexp"
	"slices"
	"strconv"
	"strings"
	"testing"
	"unsafe"

	"postilion/api"
)

const (
	top       = "HTTP/1.1 200 -\r\n"
	nameBytes = "ABCDEFGHIJKLMNOPQRSTUVWXYZabcdefghijklmnopqrstuvwxyz0123456789-"
)

func at(name, value string) api.Head { return api.Head{Name: name, Value: value} }

func one(c int) string { return string([]byte{byte(c)}) }

func same(a, b Reply) bool {
	return a.Code == b.Code && slices.Equal(a.Heads, b.Heads) && a.Body == b.Body && a.Cut == b.Cut
}

func mustParse(t *testing.T, s string, want Reply) {
	t.Helper()
	if got, e := Parse(s); !same(got, want) || e != api.OK {
		t.Errorf("Parse(%.90q) = %.90q, %d; want %.90q, OK", s, fmt.Sprint(got), e, fmt.Sprint(want))
	}
}

func mustNotParse(t *testing.T, s string) {
	t.Helper()
	if got, e := Parse(s); !same(got, Reply{}) || e != api.ErrForm {
		t.Errorf("Parse(%.90q) = %.90q, %d; want nothing and ErrForm", s, fmt.Sprint(got), e)
	}
}

// mustHeads parses an answer with these lines, and no body.
func mustHeads(t *testing.T, lines string, want ...api.Head) {
	t.Helper()
	mustParse(t, top+lines+"\r\n", Reply{Code: 200, Heads: want})
}

func mustNotHeads(t *testing.T, lines string) {
	t.Helper()
	mustNotParse(t, top+lines+"\r\n")
}

func mustNumber(t *testing.T, s string, want int) {
	t.Helper()
	if got, ok := Number(s); got != want || !ok {
		t.Errorf("Number(%.60q) = %d, %t; want %d, true", s, got, ok, want)
	}
}

func mustNotNumber(t *testing.T, s string) {
	t.Helper()
	if got, ok := Number(s); got != 0 || ok {
		t.Errorf("Number(%.60q) = %d, %t; want nothing and false", s, got, ok)
	}
}

func mustPrint(t *testing.T, r Reply, want string) {
	t.Helper()
	if got := Print(r); got != want {
		t.Errorf("Print(%.90q) = %.90q; want %.90q", fmt.Sprint(r), got, want)
	}
}

func TestNumber(t *testing.T) {
	for s, want := range map[string]int{"0": 0, "1": 1, "9": 9, "10": 10, "42": 42, "100": 100, "1024": 1024, "65535": 65535, "99999": 99999, "100000": 100000, "123456": 123456, "999999": 999999} {
		mustNumber(t, s, want)
	}
	for s, want := range map[string]int{"00": 0, "000000": 0, "01": 1, "007": 7, "000001": 1, "000100": 100, "099999": 99999, "012345": 12345} {
		mustNumber(t, s, want)
	}
	for _, s := range []string{
		"", "0000000", "0000001", "1000000", "1234567", "9999999", "99999999999999999999", strings.Repeat("0", 1<<20), strings.Repeat("1", 1<<20),
		"-", "+", "-1", "+1", "-0", "--1", " ", " 1", "1 ", "1 2", "1\t", "\n1", "1\r\n", "\x001", "1\x00", "1.", "1.0", ".5", "1,0", "1_0", "1e3", "0x1", "0b1", "0o7", "a", "f", "1a", "a1", "x", "\u0661", "1\u0661", "\uff11", "\u00b2", "\xff", "1\xff",
	} {
		mustNotNumber(t, s)
	}
}

func TestNumberOfAll(t *testing.T) {
	for n := range 1000000 {
		s := strconv.Itoa(n)
		if got, ok := Number(s); got != n || !ok {
			t.Fatalf("Number(%q) = %d, %t", s, got, ok)
		}
		s = strings.Repeat("0", 6-len(s)) + s
		if got, ok := Number(s); got != n || !ok {
			t.Fatalf("Number(%q) = %d, %t", s, got, ok)
		}
		if s = "0" + s; n%97 == 0 {
			mustNotNumber(t, s)
		}
	}
}

func TestNumberOfEveryByte(t *testing.T) {
	for c := range 256 {
		isDigit := c >= 48 && c <= 57
		for _, form := range []string{"*", "1*", "*1", "12*45", "*23456", "12345*"} {
			s := strings.ReplaceAll(form, "*", one(c))
			if want, err := strconv.Atoi(s); isDigit && err == nil {
				mustNumber(t, s, want)
			} else {
				mustNotNumber(t, s)
			}
		}
	}
}

func TestFirstLine(t *testing.T) {
	for _, behind := range []string{"", " ", " -", " OK", "OK", " Not Found", "  ", "0", "00", "9", " 200", "abc d", ":", ": x", "\t", "\x00", "\x7f\xff", "\u00e9", "\n", "\r", "\r\r", "\n\r", " -\n", " -\r", "\na: 1", "\ra: 1", " HTTP/1.1 404 -", strings.Repeat("x", 1<<10)} {
		mustParse(t, "HTTP/1.1 200"+behind+"\r\n\r\n", Reply{Code: 200})
		mustParse(t, "HTTP/1.1 404"+behind+"\r\nb: 2\r\n\r\nbody", Reply{Code: 404, Heads: []api.Head{at("b", "2")}, Body: "body"})
	}
	for c := range 256 {
		mustParse(t, "HTTP/1.1 301"+one(c)+"\r\n\r\n", Reply{Code: 301})
		mustParse(t, "HTTP/1.1 301 "+one(c)+one(c)+"x\r\n\r\n", Reply{Code: 301})
	}
}

func TestEveryStatus(t *testing.T) {
	for n := range 1000 {
		s := fmt.Sprintf("HTTP/1.1 %03d", n)
		for _, behind := range []string{"", " -", " OK", "0", "1"} {
			if n >= 100 && n <= 599 {
				mustParse(t, s+behind+"\r\n\r\n", Reply{Code: n})
			} else {
				mustNotParse(t, s+behind+"\r\n\r\n")
			}
		}
	}
	for n := range 100 {
		for _, form := range []string{"HTTP/1.1 %d\r\n\r\n", "HTTP/1.1 %d -\r\n\r\n", "HTTP/1.1 %02d\r\n\r\n", "HTTP/1.1 %02d -\r\n\r\n", "HTTP/1.1 0%02d -\r\n\r\n"} {
			mustNotParse(t, fmt.Sprintf(form, n))
		}
	}
	// Of four digits the last is what stands behind the status.
	for n := 1000; n < 10000; n += 7 {
		s := fmt.Sprintf("HTTP/1.1 %d -\r\n\r\n", n)
		if n < 6000 {
			mustParse(t, s, Reply{Code: n / 10})
		} else {
			mustNotParse(t, s)
		}
	}
}

func TestFirstLineOfWrong(t *testing.T) {
	for _, line := range []string{
		"", " ", "200", "200 -", "-", "HTTP", "HTTP/1.1", "HTTP/1.1 ", "HTTP/1.1  ", "HTTP/1.1 -", "HTTP/1.1 OK", "HTTP/1.1 2", "HTTP/1.1 20", "HTTP/1.1 20 ", "HTTP/1.1 2 0", "HTTP/1.1 20x", "HTTP/1.1 x20", "HTTP/1.1 2x0",
		"HTTP/1.1  200 -", "HTTP/1.1\t200 -", "HTTP/1.1200 -", "HTTP/1.1-200", " HTTP/1.1 200 -", "xHTTP/1.1 200 -", "\nHTTP/1.1 200 -", "\x00HTTP/1.1 200 -", "TTP/1.1 200 -",
		"HTTP/1.0 200 -", "HTTP/1.2 200 -", "HTTP/2.1 200 -", "HTTP/2 200 -", "HTTP/11 200 -", "HTTP/1,1 200 -", "HTTP 1.1 200 -", "HTTPS/1.1 200 -", "http/1.1 200 -", "Http/1.1 200 -", "HTTp/1.1 200 -", "HTTP/1.01 200 -", "ICY 200 -",
		"HTTP/1.1 -200", "HTTP/1.1 +200", "HTTP/1.1 -99", "HTTP/1.1 +99", "HTTP/1.1 2\u0660\u0660", "HTTP/1.1 \uff12\uff10\uff10", "HTTP/1.1 0x7b", "HTTP/1.1 1e2", "HTTP/1.1 1.5", "HTTP/1.1 1,5", "HTTP/1.1 \x00200", "HTTP/1.1 20\x00", "HTTP/1.1 \xff\xff\xff",
		"HTTP/1.1 099", "HTTP/1.1 600", "HTTP/1.1 000", "HTTP/1.1 999", "a: 1", "GET / HTTP/1.1",
	} {
		mustNotParse(t, line+"\r\n\r\n")
		mustNotParse(t, line+"\r\na: 1\r\n\r\nbody")
		mustNotParse(t, line)
	}
	const line = "HTTP/1.1 200"
	for i := range len(line) {
		mustNotParse(t, line[:i]+line[i+1:]+"\r\n\r\n")
		for c := range 256 {
			s := line[:i] + one(c) + line[i+1:]
			isDigit := c >= '0' && c <= '9' && i > 9 || c >= '1' && c <= '5' && i == 9
			if s == line || isDigit {
				code, _ := strconv.Atoi(s[9:])
				mustParse(t, s+" -\r\n\r\n", Reply{Code: code})
			} else {
				mustNotParse(t, s+" -\r\n\r\n")
			}
		}
	}
}

func TestLineEnds(t *testing.T) {
	for _, s := range []string{
		"", "\r\n", "\r\n\r\n", "HTTP/1.1 200 -", "HTTP/1.1 200 -\r", "HTTP/1.1 200 -\n", "HTTP/1.1 200 -\r\n", "HTTP/1.1 200 -\r\n\r", "HTTP/1.1 200 -\r\n\n", "HTTP/1.1 200 -\r\r", "HTTP/1.1 200 -\n\n", "HTTP/1.1 200 -\n\r\n", "HTTP/1.1 200 -\n\r", "HTTP/1.1 200 -\r\r\n", "HTTP/1.1 200 -\r\n\n\r", "HTTP/1.1 200 -\n\r\n\n", "HTTP/1.1 200 -\r\r\n\n",
		top + "a: 1", top + "a: 1\r", top + "a: 1\n", top + "a: 1\r\n", top + "a: 1\r\n\r", top + "a: 1\r\n\n", top + "a: 1\n\n", top + "a: 1\r\r", top + "a: 1\n\r\n", top + "a: 1\r\nb: 2\r\n", top + "body",
		top + "a: 1\n\r\n\r\n", top + "a: 1\r\r\n\r\n", top + "a: 1\nb: 2\r\n\r\n", top + "a: 1\rb: 2\r\n\r\n", top + "\n\r\n", top + "\r\r\n\r\n", top + "\n\r\n\r\n", top + "a: 1\r\n\r\r\n\r\n", top + "a: 1\r\n\n\r\n\r\n", top + "a:\n 1\r\n\r\n", top + "a: 1\r\n b\r\n\r\n",
	} {
		mustNotParse(t, s)
	}
	// Of an answer without a body, each beginning lacks the empty line.
	const whole = "HTTP/1.1 200 -\r\na: 1\r\nb: 2\r\n\r\n"
	for n := range len(whole) {
		mustNotParse(t, whole[:n])
	}
	mustParse(t, whole, Reply{Code: 200, Heads: []api.Head{at("a", "1"), at("b", "2")}})
	// A line that ends with one of the two bytes alone.
	for i := range len(whole) {
		if whole[i] == '\r' || whole[i] == '\n' {
			s := whole[:i] + whole[i+1:]
			if i < strings.Index(whole, "\r\n")+2 {
				// The first line goes on to the next end: what is there is lost.
				mustParse(t, s, Reply{Code: 200, Heads: []api.Head{at("b", "2")}})
			} else {
				mustNotParse(t, s)
			}
		}
	}
}

func TestHeads(t *testing.T) {
	mustHeads(t, "")
	mustHeads(t, "a: 1\r\n", at("a", "1"))
	mustHeads(t, "a:1\r\n", at("a", "1"))
	mustHeads(t, "a:  1\r\n", at("a", "1"))
	mustHeads(t, "a: 1 \r\n", at("a", "1"))
	mustHeads(t, "a:      1      \r\n", at("a", "1"))
	mustHeads(t, "a:1 \r\n", at("a", "1"))
	mustHeads(t, "a:\r\n", at("a", ""))
	mustHeads(t, "a: \r\n", at("a", ""))
	mustHeads(t, "a:     \r\n", at("a", ""))
	mustHeads(t, "a: x y\r\n", at("a", "x y"))
	mustHeads(t, "a:  x   y  \r\n", at("a", "x   y"))
	mustHeads(t, "a: b: c\r\n", at("a", "b: c"))
	mustHeads(t, "a:b:c\r\n", at("a", "b:c"))
	mustHeads(t, "a::\r\n", at("a", ":"))
	mustHeads(t, "a: :b\r\n", at("a", ":b"))
	mustHeads(t, "a:::b::\r\n", at("a", "::b::"))
	mustHeads(t, "location: https://a.b:81/c?d#e\r\n", at("location", "https://a.b:81/c?d#e"))
	mustHeads(t, "etag: \"abc\"\r\nAllow-Origin: *\r\n", at("etag", "\"abc\""), at("Allow-Origin", "*"))
	mustHeads(t, "-: ~\r\n", at("-", "~"))
	mustHeads(t, "9: !\r\n", at("9", "!"))
	// Names stay as they are, also those alike, and in their order.
	mustHeads(t, "b: 2\r\nA: 1\r\nB: 2\r\nb: 3\r\n", at("b", "2"), at("A", "1"), at("B", "2"), at("b", "3"))
	// Names that a page may not give are a server's to give.
	mustHeads(t, "Host: a\r\nsec-x: b\r\nRange: c\r\n", at("Host", "a"), at("sec-x", "b"), at("Range", "c"))
	for _, line := range []string{
		"a", "a 1", "a=1", "abc def", " ", "  ", "-", "\"a: 1", ": 1", ":1", ":", "::", " :1", " : 1", "a : 1", " a: 1", "\ta: 1", "a\t: 1", "a b: 1", "a_b: 1", "a.b: 1", "a\x00: 1", "\u00e9: 1", "a\u00e9: 1", "\xff: 1", "\u017f: 1", "\u212a: 1",
		"a: \x01", "a: \t", "a:\t1", "a: 1\t", "a: 1\t2", "a: \x00", "a: \x1f", "a: \x7f", "a: \u00e9", "a: \u00a0", "a: \xff", "a: 1\n", "a: 1\r", "a: \n1", "a: \v1", "HTTP/1.1 200 -",
	} {
		mustNotHeads(t, line+"\r\n")
		mustNotHeads(t, "b: 2\r\n"+line+"\r\n")
		mustNotHeads(t, line+"\r\nb: 2\r\n")
	}
}

func TestHowManyHeads(t *testing.T) {
	var l []api.Head
	lines, longLines := "", ""
	long := at("abcdefghijklmnopqrst", strings.Repeat("x", 40))
	for n := range 30 {
		want := Reply{Code: 200, Heads: l, Body: "body"}
		if n <= 8 {
			mustParse(t, top+lines+"\r\nbody", want)
			mustHeads(t, longLines, slices.Repeat([]api.Head{long}, n)...)
			// What looks like a header behind the empty line is none.
			mustParse(t, top+lines+"\r\na: 1\r\n\r\n", Reply{Code: 200, Heads: l, Body: "a: 1\r\n\r\n"})
		} else {
			mustNotParse(t, top+lines+"\r\nbody")
			mustNotHeads(t, longLines)
		}
		h := at(fmt.Sprint("n", n), fmt.Sprint("v", n))
		l = append(l, h)
		lines += h.Name + ": " + h.Value + "\r\n"
		longLines += long.Name + ":" + long.Value + "\r\n"
	}
	mustHeads(t, strings.Repeat("a: 1\r\n", 8), slices.Repeat([]api.Head{at("a", "1")}, 8)...)
	mustNotHeads(t, strings.Repeat("a: 1\r\n", 9))
	// A content-length is one of the eight.
	mustParse(t, top+strings.Repeat("a: 1\r\n", 7)+"content-length: 1\r\n\r\nx", Reply{Code: 200, Heads: append(slices.Repeat([]api.Head{at("a", "1")}, 7), at("content-length", "1")), Body: "x"})
	mustNotParse(t, top+strings.Repeat("a: 1\r\n", 8)+"content-length: 1\r\n\r\nx")
}

func TestNameOfEveryByte(t *testing.T) {
	for c := range 256 {
		good := strings.Contains(nameBytes, one(c))
		for _, form := range []string{"*", "a*", "*a", "a*b", "abcdefghijklmnopqrs*", "*bcdefghijklmnopqrst", "abcdef*hijklmnopqrst"} {
			name := strings.ReplaceAll(form, "*", one(c))
			switch {
			case good:
				mustHeads(t, name+": 1\r\n", at(name, "1"))
			case c != ':':
				mustNotHeads(t, name+": 1\r\n")
			}
		}
	}
	mustHeads(t, "a:: 1\r\n", at("a", ": 1"))
}

func TestNameOfEveryLength(t *testing.T) {
	for n := range 80 {
		for c := range nameBytes {
			name := strings.Repeat(nameBytes[c:c+1], n)
			if n >= 1 && n <= 20 {
				mustHeads(t, name+": 1\r\n", at(name, "1"))
			} else {
				mustNotHeads(t, name+": 1\r\n")
			}
		}
	}
	mustNotHeads(t, strings.Repeat("a", 1<<20)+": 1\r\n")
}

func TestValueOfEveryByte(t *testing.T) {
	for c := range 256 {
		for _, form := range []string{"*", "x*", "*x", "x*y", "**", strings.Repeat("x", 39) + "*", "*" + strings.Repeat("x", 39), strings.Repeat("x", 20) + "*" + strings.Repeat("x", 19)} {
			value := strings.ReplaceAll(form, "*", one(c))
			for _, blanks := range []string{"", " ", "   "} {
				line := "a:" + blanks + value + blanks + "\r\n"
				if c >= 32 && c <= 126 {
					mustHeads(t, line, at("a", strings.Trim(value, " ")))
				} else {
					mustNotHeads(t, line)
				}
			}
		}
	}
}

func TestValueOfEveryLength(t *testing.T) {
	for n := range 100 {
		for c := 33; c <= 126; c++ {
			value := strings.Repeat(one(c), n)
			for _, form := range []string{"a: *\r\n", "a:*\r\n", "a:*   \r\n", "a:     *      \r\n"} {
				line := strings.ReplaceAll(form, "*", value)
				if n <= 40 {
					mustHeads(t, line, at("a", value))
				} else {
					mustNotHeads(t, line)
				}
			}
		}
		// Blanks count inside, but not at the ends.
		blanks := strings.Repeat(" ", n)
		mustHeads(t, "a:"+blanks+"\r\n", at("a", ""))
		mustHeads(t, "a:"+blanks+strings.Repeat("x", 40)+blanks+"\r\n", at("a", strings.Repeat("x", 40)))
		mustNotHeads(t, "a:"+blanks+strings.Repeat("x", 41)+blanks+"\r\n")
		if n <= 38 {
			mustHeads(t, "a: x"+blanks+"y\r\n", at("a", "x"+blanks+"y"))
		} else {
			mustNotHeads(t, "a: x"+blanks+"y\r\n")
		}
	}
}

// cases are s with every choice of small and great letters in its first ones,
// and with all of the rest small or great.
func cases(s string, first int) []string {
	all := []string{""}
	for i := range first {
		var longer []string
		for _, begun := range all {
			longer = append(longer, begun+strings.ToLower(s[i:i+1]), begun+strings.ToUpper(s[i:i+1]))
		}
		all = longer
	}
	var whole []string
	for _, begun := range all {
		whole = append(whole, begun+strings.ToLower(s[first:]), begun+strings.ToUpper(s[first:]))
	}
	return whole
}

func mustBody(t *testing.T, length, text, body string, cut bool) {
	t.Helper()
	for _, name := range []string{"content-length", "Content-Length", "CONTENT-LENGTH", "cOnTeNt-LeNgTh"} {
		mustParse(t, top+name+": "+length+"\r\n\r\n"+text, Reply{Code: 200, Heads: []api.Head{at(name, length)}, Body: body, Cut: cut})
		mustParse(t, top+"a: 1\r\n"+name+":"+length+"   \r\nb: 2\r\n\r\n"+text, Reply{Code: 200, Heads: []api.Head{at("a", "1"), at(name, length), at("b", "2")}, Body: body, Cut: cut})
	}
}

func TestBody(t *testing.T) {
	for _, body := range []string{"", "x", "abc", "\r\n", "\r\n\r\n", "x\r\ny", "body\r\n\r\nmore", "a: 1\r\n\r\n", "content-length: 1\r\n\r\nxyz", "\r", "\n", "\x00\xff\x7f", "\u00e9", "  ", " a ", top + "\r\n", strings.Repeat("long", 1000)} {
		n := len(body)
		mustParse(t, top+"\r\n"+body, Reply{Code: 200, Body: body})
		mustParse(t, top+"a: 1\r\n\r\n"+body, Reply{Code: 200, Heads: []api.Head{at("a", "1")}, Body: body})
		mustBody(t, strconv.Itoa(n), body, body, false)
		mustBody(t, strconv.Itoa(n), body+"more", body, false)
		mustBody(t, strconv.Itoa(n), body+"\r\n", body, false)
		mustBody(t, strconv.Itoa(n+1), body, body, true)
		mustBody(t, strconv.Itoa(n+100), body, body, true)
		mustBody(t, "999999", body, body, true)
		mustBody(t, "0", body, "", false)
		mustBody(t, "000000", body, "", false)
		if n > 0 {
			mustBody(t, strconv.Itoa(n-1), body, body[:n-1], false)
		}
	}
	for n := range 12 {
		mustBody(t, strconv.Itoa(n), "0123456789"[:min(n, 10)], "0123456789"[:min(n, 10)], n > 10)
		mustBody(t, fmt.Sprintf("%06d", n), "0123456789", "0123456789"[:min(n, 10)], n > 10)
	}
	// A rune is as many bytes as it has, and may be parted.
	mustBody(t, "1", "\u00e9", "\xc3", false)
	mustBody(t, "2", "\u00e9", "\u00e9", false)
	mustBody(t, "3", "\u00e9", "\u00e9", true)
	const long = 999999
	for n := long - 2; n <= long+2; n++ {
		mustBody(t, "999999", strings.Repeat("x", n), strings.Repeat("x", min(n, long)), n < long)
	}
	// A body that the status would not let be is a body all the same.
	for _, code := range []string{"100", "204", "304"} {
		r, e := Parse("HTTP/1.1 " + code + " -\r\ncontent-length: 2\r\n\r\nabc")
		if r.Body != "ab" || r.Cut || e != api.OK {
			t.Errorf("the body of %s is %q, %t, %d", code, r.Body, r.Cut, e)
		}
	}
}

func TestContentLengthOfWrong(t *testing.T) {
	for _, length := range []string{"", " ", "x", "-1", "+1", "-0", "1.0", "1x", "x1", "1 1", "1,1", "1;", "0x1", "1e1", "\"1\"", "0000000", "0000001", "1000000", "1234567", "99999999999999999999", "1:1", ":1"} {
		for _, name := range cases("content-length", 3) {
			mustNotParse(t, top+name+": "+length+"\r\n\r\nx")
			mustNotParse(t, top+name+":"+length+"\r\n\r\n")
			mustNotParse(t, top+"a: 1\r\n"+name+": "+length+"\r\nb: 2\r\n\r\nx")
		}
	}
	for _, two := range [][2]string{{"1", "1"}, {"1", "2"}, {"0", "0"}, {"1", "x"}, {"x", "1"}, {"x", "y"}, {"1", ""}, {"", "1"}, {"1", "01"}} {
		for _, name := range cases("content-length", 2) {
			mustNotParse(t, top+name+": "+two[0]+"\r\ncontent-length: "+two[1]+"\r\n\r\nx")
			mustNotParse(t, top+"a: 1\r\nContent-Length: "+two[0]+"\r\nb: 2\r\n"+name+": "+two[1]+"\r\nc: 3\r\n\r\nx")
		}
	}
	mustNotParse(t, top+strings.Repeat("content-length: 1\r\n", 3)+"\r\nx")
	mustNotParse(t, top+strings.Repeat("content-length: 1\r\n", 8)+"\r\nx")
}

func TestContentLengthNames(t *testing.T) {
	for _, name := range cases("content-length", len("content-length")) {
		mustParse(t, top+name+": 1\r\n\r\nxyz", Reply{Code: 200, Heads: []api.Head{at(name, "1")}, Body: "x"})
	}
	for _, name := range []string{"content-lengt", "ontent-length", "content-lengths", "x-content-length", "contentlength", "content--length", "length", "content", "content-", "-length", "content-range", "content-type"} {
		for _, value := range []string{"1", "x", "", "1234567"} {
			h := at(name, value)
			mustParse(t, top+name+": "+value+"\r\n\r\nxyz", Reply{Code: 200, Heads: []api.Head{h}, Body: "xyz"})
			mustParse(t, top+strings.Repeat(name+": "+value+"\r\n", 2)+"content-length: 1\r\n\r\nxyz", Reply{Code: 200, Heads: []api.Head{h, h, at("content-length", "1")}, Body: "x"})
		}
	}
}

func TestPrint(t *testing.T) {
	mustPrint(t, Reply{}, "HTTP/1.1 0 -\r\n\r\n")
	mustPrint(t, Reply{Code: 200}, "HTTP/1.1 200 -\r\n\r\n")
	mustPrint(t, Reply{Code: 200, Heads: []api.Head{}}, "HTTP/1.1 200 -\r\n\r\n")
	mustPrint(t, Reply{Code: 404, Body: "none"}, "HTTP/1.1 404 -\r\n\r\nnone")
	mustPrint(t, Reply{Code: 301, Heads: []api.Head{at("b", "2"), at("A", "")}, Body: "x\r\ny"}, "HTTP/1.1 301 -\r\nb: 2\r\nA: \r\n\r\nx\r\ny")
	mustPrint(t, Reply{Code: 200, Heads: []api.Head{at("a", "1"), at("a", "1"), at("A", "1")}}, "HTTP/1.1 200 -\r\na: 1\r\na: 1\r\nA: 1\r\n\r\n")
	// No length is told, nor is one that is there set right; nor is Cut.
	mustPrint(t, Reply{Code: 200, Body: "abc", Cut: true}, "HTTP/1.1 200 -\r\n\r\nabc")
	mustPrint(t, Reply{Code: 200, Heads: []api.Head{at("content-length", "1")}, Body: "abc"}, "HTTP/1.1 200 -\r\ncontent-length: 1\r\n\r\nabc")
	// What is none is printed as it stands.
	mustPrint(t, Reply{Code: -7}, "HTTP/1.1 -7 -\r\n\r\n")
	mustPrint(t, Reply{Code: 1000000}, "HTTP/1.1 1000000 -\r\n\r\n")
	mustPrint(t, Reply{Code: math.MaxInt}, fmt.Sprintf("HTTP/1.1 %d -\r\n\r\n", math.MaxInt))
	mustPrint(t, Reply{Code: math.MinInt}, fmt.Sprintf("HTTP/1.1 %d -\r\n\r\n", math.MinInt))
	mustPrint(t, Reply{Code: 20, Heads: []api.Head{at("", ""), at(" a:", " \r\n")}, Body: "\x00\xff"}, "HTTP/1.1 20 -\r\n: \r\n a::  \r\n\r\n\r\n\x00\xff")
	many := slices.Repeat([]api.Head{at("a", "1")}, 9)
	mustPrint(t, Reply{Code: 200, Heads: many}, top+strings.Repeat("a: 1\r\n", 9)+"\r\n")
	for code := -1000; code <= 1000; code++ {
		mustPrint(t, Reply{Code: code, Body: "-"}, "HTTP/1.1 "+strconv.Itoa(code)+" -\r\n\r\n-")
	}
}

func TestPrintAndParse(t *testing.T) {
	for code := 100; code <= 599; code++ {
		for n := range 9 {
			var l []api.Head
			for i := range n {
				l = append(l, at(fmt.Sprint("Name-", i), strings.Repeat("v ", i)+"~"))
			}
			r := Reply{Code: code, Heads: l, Body: strings.Repeat("\r\n", n) + "b"}
			mustParse(t, Print(r), r)
			if n < 8 {
				r.Heads = append(r.Heads, at("content-length", strconv.Itoa(len(r.Body))))
				mustParse(t, Print(r), r)
				r.Heads[n].Value, r.Cut = strconv.Itoa(len(r.Body)+1), true
				mustParse(t, Print(r), r)
			}
		}
	}
}

var (
	firstPattern = regexp.MustCompile(`(?s)\AHTTP/1\.1 ([1-5][0-9][0-9])`)
	headPattern  = regexp.MustCompile(`\A([A-Za-z0-9-]{1,20}): *((?:[!-~](?:[ -~]{0,38}[!-~])?)?) *\z`)
	lengthName   = regexp.MustCompile(`\A[Cc][Oo][Nn][Tt][Ee][Nn][Tt]-[Ll][Ee][Nn][Gg][Tt][Hh]\z`)
	numberText   = regexp.MustCompile(`\A[0-9]{1,6}\z`)
)

// parsed is Parse by another way: the whole text is parted at all its line
// ends, and what is behind the first empty line put together again.
func parsed(s string) (r Reply, ok bool) {
	lines := strings.Split(s, "\r\n")
	empty := slices.Index(lines[1:], "") + 1
	first := firstPattern.FindStringSubmatch(lines[0])
	if empty < 1 || empty == len(lines)-1 || empty > 9 || first == nil {
		return Reply{}, false
	}
	r.Code, _ = strconv.Atoi(first[1])
	r.Body = strings.Join(lines[empty+1:], "\r\n")
	lengths := 0
	text := r.Body
	for _, line := range lines[1:empty] {
		h := headPattern.FindStringSubmatch(line)
		if h == nil {
			return Reply{}, false
		}
		r.Heads = append(r.Heads, at(h[1], h[2]))
		if lengthName.MatchString(h[1]) {
			n, err := strconv.Atoi(h[2])
			if lengths++; lengths > 1 || err != nil || !numberText.MatchString(h[2]) {
				return Reply{}, false
			}
			r.Cut = n > len(text)
			r.Body = text[:min(n, len(text))]
		}
	}
	return r, true
}

// checkParse holds Parse against another way to its answer, and what it
// answers against its Print.
func checkParse(t *testing.T, s string) {
	t.Helper()
	r, ok := parsed(s)
	if !ok {
		mustNotParse(t, s)
		return
	}
	mustParse(t, s, r)
	mustParse(t, Print(r), r)
}

func checkNumber(t *testing.T, s string) {
	t.Helper()
	if n, err := strconv.Atoi(s); err == nil && numberText.MatchString(s) {
		mustNumber(t, s, n)
	} else {
		mustNotNumber(t, s)
	}
}

func TestAllShortTexts(t *testing.T) {
	pieces := []string{"\r\n", "\r", "\n", "a", ":", " ", "1", "\x1f", "content-length:"}
	var each func(s string, left int)
	each = func(s string, left int) {
		checkParse(t, s)
		checkParse(t, top+s)
		checkParse(t, top+s+"\r\n\r\n")
		checkParse(t, "HTTP/1.1 200"+s+"\r\n\r\nx")
		checkNumber(t, s)
		if left > 0 {
			for _, piece := range pieces {
				each(s+piece, left-1)
			}
		}
	}
	each("", 5)
}

func TestManyTexts(t *testing.T) {
	chance := rand.New(rand.NewSource(9))
	pick := func(l ...string) string { return l[chance.Intn(len(l))] }
	for range 60000 {
		s := pick("HTTP/1.1 200 -", "HTTP/1.1 404", "HTTP/1.1 599 x\ry", "HTTP/1.1 100", "HTTP/1.1 1000 -", "HTTP/1.1 99 -", "HTTP/1.1 600 -", "HTTP/1.0 200 -") + "\r\n"
		for range chance.Intn(10) {
			s += pick("a", "Name-9", "etag", "content-lengtH", "abcdefghijklmnopqrst", "Content-Length", "a", "x-y", "Retry-After", "location", "b", "c", "d")
			s += pick(":", ": ", ":  ", ": ", ": ", ": ", ": ", ": ")
			s += pick("", "1", "3", "0", "x y", "12", "a:b", strings.Repeat("v", 40), "999999", "000002", "~") + pick("", "", "", " ", "  ") + "\r\n"
		}
		s += pick("\r\n", "\r\n", "\r\n", "\r\n", "\r\n", "") + pick("", "x", "abc", "body\r\n\r\nmore", "\r\n", strings.Repeat("long", 40))
		checkParse(t, s)
		// The same with one byte another, one more, or one less.
		k := chance.Intn(len(s))
		c := one(chance.Intn(256))
		checkParse(t, s[:k]+c+s[k+1:])
		checkParse(t, s[:k]+c+s[k:])
		checkParse(t, s[:k]+s[k+1:])
		checkParse(t, s[:k])
	}
}

func TestLong(t *testing.T) {
	const n = 1 << 20
	long := strings.Repeat("x", n)
	mustParse(t, "HTTP/1.1 200"+long+"\r\n\r\n"+long, Reply{Code: 200, Body: long})
	mustHeads(t, "a:"+strings.Repeat(" ", n)+"x"+strings.Repeat(" ", n)+"\r\n", at("a", "x"))
	mustNotHeads(t, "a:"+long+"\r\n")
	mustNotHeads(t, strings.Repeat("a: 1\r\n", n))
	mustNotHeads(t, strings.Repeat("a: 1", n)+"\r\n")
	mustNotParse(t, long)
	mustNotParse(t, strings.Repeat("\r\n", n))
	mustNotParse(t, top+strings.Repeat("\r", n))
	mustParse(t, top+strings.Repeat("\r\n", n), Reply{Code: 200, Body: strings.Repeat("\r\n", n-1)})
	l := slices.Repeat([]api.Head{at("a", "1")}, n)
	mustPrint(t, Reply{Code: 200, Heads: l, Body: long}, top+strings.Repeat("a: 1\r\n", n)+"\r\n"+long)
}

// inside tells whether part lies in the memory of whole.
func inside(part, whole string) bool {
	at := uintptr(unsafe.Pointer(unsafe.StringData(part)))
	from := uintptr(unsafe.Pointer(unsafe.StringData(whole)))
	return part != "" && at >= from && at < from+uintptr(len(whole))
}

// What is handed in stays as it was, also what lies behind its length; what is
// answered shares no memory with it, nor with an earlier answer, and the same
// argument has the same answer again.
func TestMemory(t *testing.T) {
	for _, s := range []string{
		"HTTP/1.1 200 -\r\nName: value\r\nOther: more\r\n\r\nbody",
		"HTTP/1.1 200 -\r\nName: value\r\ncontent-length: 3\r\n\r\nbody",
		"HTTP/1.1 200 -\r\nName: value\r\ncontent-length: 9\r\n\r\nbody",
	} {
		a, _ := Parse(s)
		b, _ := Parse(s)
		if !same(a, b) {
			t.Errorf("Parse(%q) = %v, then %v", s, a, b)
		}
		for _, part := range []string{a.Body, a.Heads[0].Name, a.Heads[0].Value, a.Heads[1].Name, a.Heads[1].Value} {
			if inside(part, s) {
				t.Errorf("of Parse(%q) %q is the memory of its argument", s, part)
			}
		}
		kept := slices.Clone(b.Heads)
		a.Heads[0] = at("changed", "too")
		if c, _ := Parse(s); !slices.Equal(b.Heads, kept) || !same(b, c) {
			t.Errorf("Parse(%q) = %v, and when another answer was changed %v", s, b, c)
		}
	}
	all := []api.Head{at("Z", "last"), at("b", "value"), at("a", "behind")}
	kept := slices.Clone(all)
	r := Reply{Code: 200, Heads: all[:2], Body: "body"}
	const want = "HTTP/1.1 200 -\r\nZ: last\r\nb: value\r\n\r\nbody"
	mustPrint(t, r, want)
	mustPrint(t, r, want)
	if !slices.Equal(all, kept) || !same(r, Reply{Code: 200, Heads: kept[:2], Body: "body"}) {
		t.Errorf("what was handed in became %v, %v", r, all)
	}
}

func FuzzParse(f *testing.F) {
	for _, s := range []string{"", top, top + "\r\n", top + "a: 1\r\n\r\nbody", top + "content-length: 3\r\n\r\nabcdef", top + "Content-Length: 9\r\nb:  x y  \r\n\r\nabc", top + "a\r\n\r\n", "HTTP/1.1 1000\n\r\r\n\r\n", top + strings.Repeat("a:\r\n", 9) + "\r\n", "007", "1234567"} {
		f.Add(s)
	}
	f.Fuzz(func(t *testing.T, s string) {
		checkParse(t, s)
		checkParse(t, top+s)
		checkNumber(t, s)
	})
}

func FuzzPrint(f *testing.F) {
	f.Add(200, "a", "1", "b", "", "body")
	f.Add(0, "", "", " a", ":", "\r\n")
	f.Add(404, "content-length", "3", "Content-Length", "4", "abc")
	f.Fuzz(func(t *testing.T, code int, name, value, other, more, body string) {
		r := Reply{Code: code, Heads: []api.Head{at(name, value), at(other, more)}, Body: body}
		mustPrint(t, r, fmt.Sprintf("HTTP/1.1 %d -\r\n%s: %s\r\n%s: %s\r\n\r\n%s", code, name, value, other, more, body))
		checkParse(t, Print(r))
	})
}
