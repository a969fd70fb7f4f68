package ask

import (
	"fmt"
	"math/rand"
	"regexp"
	"slices"
	"strconv"
	"strings"
	"testing"
	"unsafe"

	"postilion/api"
	"postilion/url"
)

const top = "GET / HTTP/1.1\r\nHost: a\r\nScheme: http\r\n"

func at(name, value string) api.Head { return api.Head{Name: name, Value: value} }

func one(c int) string { return string([]byte{byte(c)}) }

func get(heads ...api.Head) Ask { return Ask{Method: "GET", URL: "http://a/", Heads: heads} }

func same(a, b Ask) bool {
	return a.Method == b.Method && a.URL == b.URL && slices.Equal(a.Heads, b.Heads) && a.Body == b.Body
}

// mustPrint holds the text of a, and a parsed from it again.
func mustPrint(t *testing.T, a Ask, want string) {
	t.Helper()
	if got, e := Print(a); got != want || e != api.OK {
		t.Errorf("Print(%.90q) = %.200q, %d; want %.200q, OK", fmt.Sprint(a), got, e, want)
	}
	mustParse(t, want, a)
}

func mustNotPrint(t *testing.T, a Ask) {
	t.Helper()
	if got, e := Print(a); got != "" || e != api.ErrArg {
		t.Errorf("Print(%.90q) = %.90q, %d; want nothing and ErrArg", fmt.Sprint(a), got, e)
	}
}

func mustParse(t *testing.T, s string, want Ask) {
	t.Helper()
	if got, e := Parse(s); !same(got, want) || e != api.OK {
		t.Errorf("Parse(%.200q) = %.90q, %d; want %.90q, OK", s, fmt.Sprint(got), e, fmt.Sprint(want))
	}
}

func mustNotParse(t *testing.T, s string) {
	t.Helper()
	if got, e := Parse(s); !same(got, Ask{}) || e != api.ErrForm {
		t.Errorf("Parse(%.200q) = %.90q, %d; want nothing and ErrForm", s, fmt.Sprint(got), e)
	}
}

func TestPrint(t *testing.T) {
	mustPrint(t, get(), "GET / HTTP/1.1\r\nHost: a\r\nScheme: http\r\n\r\n")
	mustPrint(t, Ask{Method: "GET", URL: "http://a/", Heads: []api.Head{}}, "GET / HTTP/1.1\r\nHost: a\r\nScheme: http\r\n\r\n")
	mustPrint(t, Ask{Method: "POST", URL: "https://a.b:8/c?d", Heads: []api.Head{at("X", "1 2"), at("y", "")}, Body: "one"}, "POST /c?d HTTP/1.1\r\nHost: a.b:8\r\nScheme: https\r\nX: 1 2\r\ny: \r\nContent-Length: 3\r\n\r\none")
	mustPrint(t, Ask{Method: "OPTIONS", URL: "http://localhost:443/a/b"}, "OPTIONS /a/b HTTP/1.1\r\nHost: localhost:443\r\nScheme: http\r\n\r\n")
	mustPrint(t, Ask{Method: "PUT", URL: "https://a/%20?b=%3F", Body: "\x00"}, "PUT /%20?b=%3F HTTP/1.1\r\nHost: a\r\nScheme: https\r\nContent-Length: 1\r\n\r\n\x00")
	// A host that is named as what stands ahead of it, and a path as what is behind.
	mustPrint(t, Ask{Method: "HTTP", URL: "http://host/HTTP/1.1"}, "HTTP /HTTP/1.1 HTTP/1.1\r\nHost: host\r\nScheme: http\r\n\r\n")
	mustPrint(t, Ask{Method: "GET", URL: "https://http/http://"}, "GET /http:// HTTP/1.1\r\nHost: http\r\nScheme: https\r\n\r\n")
}

func TestMethods(t *testing.T) {
	for n := range 12 {
		for c := range 256 {
			for k := range n {
				m := strings.Repeat("M", k) + one(c) + strings.Repeat("M", n-k-1)
				a, s := Ask{Method: m, URL: "http://a/"}, m+" / HTTP/1.1\r\nHost: a\r\nScheme: http\r\n\r\n"
				if n <= 8 && c >= 65 && c <= 90 {
					mustPrint(t, a, s)
				} else {
					mustNotPrint(t, a)
					mustNotParse(t, s)
				}
			}
		}
	}
	for _, m := range []string{"", "get", "Get", "GEt", " GET", "GET ", "G T", "GET /x", "GET / HTTP/1.1\r\nHost: a", "\u00c9", "\uff27"} {
		mustNotPrint(t, Ask{Method: m, URL: "http://a/"})
		mustNotParse(t, m+" / HTTP/1.1\r\nHost: a\r\nScheme: http\r\n\r\n")
	}
}

func TestURLs(t *testing.T) {
	for _, form := range []struct{ url, path, host, scheme string }{
		{"http://a/", "/", "a", "http"},
		{"https://a/", "/", "a", "https"},
		{"http://a.b-c.9/", "/", "a.b-c.9", "http"},
		{"http://0/", "/", "0", "http"},
		{"http://-/", "/", "-", "http"},
		{"http://abcdefghijklmnopqrst/", "/", "abcdefghijklmnopqrst", "http"},
		{"http://a:1/", "/", "a:1", "http"},
		{"http://a:443/", "/", "a:443", "http"},
		{"https://a:80/", "/", "a:80", "https"},
		{"http://a:8080/", "/", "a:8080", "http"},
		{"http://a:65535/b", "/b", "a:65535", "http"},
		{"http://a/b/c/", "/b/c/", "a", "http"},
		{"http://a//", "//", "a", "http"},
		{"http://a//b", "//b", "a", "http"},
		{"http://a/.b/c./...", "/.b/c./...", "a", "http"},
		{"http://a/%", "/%", "a", "http"},
		{"http://a/%41%zz", "/%41%zz", "a", "http"},
		{"http://a/A:b", "/A:b", "a", "http"},
		{"http://a/?b", "/?b", "a", "http"},
		{"http://a/b?c", "/b?c", "a", "http"},
		{"http://a/b?/../c", "/b?/../c", "a", "http"},
		{"http://a:7/b?HTTP/1.1", "/b?HTTP/1.1", "a:7", "http"},
		{"http://a/x234567890123456789012345678901", "/x234567890123456789012345678901", "a", "http"},
		{"http://a/x2345678901234567890123456789012", "/x2345678901234567890123456789012", "a", "http"},
	} {
		a, s := Ask{Method: "GET", URL: form.url}, "GET "+form.path+" HTTP/1.1\r\nHost: "+form.host+"\r\nScheme: "+form.scheme+"\r\n\r\n"
		if len(form.url) <= api.MaxURL {
			mustPrint(t, a, s)
		} else {
			mustNotPrint(t, a)
			mustNotParse(t, s)
		}
	}
	for n := range 60 {
		path := strings.Repeat("x", n)
		a, s := Ask{Method: "GET", URL: "https://a.b:81/" + path}, "GET /"+path+" HTTP/1.1\r\nHost: a.b:81\r\nScheme: https\r\n\r\n"
		if len(a.URL) <= api.MaxURL {
			mustPrint(t, a, s)
		} else {
			mustNotPrint(t, a)
			mustNotParse(t, s)
		}
	}
}

// Each of these is no URL, or has another text than its own as a URL; of the
// latter the text behind it is the print.
func TestURLsOfWrong(t *testing.T) {
	for _, s := range []string{
		"", "a", "/", "//a/", "http", "http:", "http:/", "http://", "http:///", "http:a/", "http:/a/", "ftp://a/", "httpx://a/", "ws://a/", "://a/", "http://a b/", "http://a_b/", "http://.a/", "http://a./", "http://a..b/", "http://./", "http://?", "http://:8/", "http://a:/", "http://a:x/", "http://a:-1/", "http://a:65536/", "http://a:123456/", "http://abcdefghijklmnopqrstu/", "http://\u00e9/", "http://a\x00/", "http://[1]/", "http://b@a/", "null", "\x00", "\xff",
		"HTTP://a/", "hTtp://a/", "Https://a/", "http://A/", "http://a.B/", "http://a:80/", "https://a:443/", "http://a:0/", "http://a:08/", "http://a:00080/", "http://a:00443/", "http://a", "https://a", "http://a:8", "http://a?b", "http://a#b", "http://a?", "http://a/?", "http://a/b?", "http://a/#", "http://a/#b", "http://a/?b#", "http://a/b#c?d",
		"http://a/.", "http://a/..", "http://a/./", "http://a/../", "http://a/./b", "http://a/b/..", "http://a/b/../c", "http://a/b/.", " http://a/", "http://a/ ", "\thttp://a/", "http://a/\n", "http://a/\r\n", "\x00http://a/", "http://a/b c", "http://a/?b c", "http://a/\u00e9", "http://a/\"", "http://a/b?\"", "http://a/\x7f", "http://a/\xff", "http://a/b\r\nHost: c", "http://a/b HTTP/1.1", "http://a\r\n/", "http://a/a?\n",
	} {
		mustNotPrint(t, Ask{Method: "GET", URL: s})
		mustNotPrint(t, Ask{Method: "GET", URL: s, Heads: []api.Head{at("b", "1")}, Body: "body"})
	}
	// So a text with such a URL in its lines is no print.
	for _, l := range [][3]string{
		{"/", "A", "http"}, {"/", "a", "HTTP"}, {"/", "a", "Https"}, {"/", "a:80", "http"}, {"/", "a:443", "https"}, {"/", "a:0", "http"}, {"/", "a:08", "http"}, {"/", "a:", "http"}, {"/", "a:x", "http"}, {"/", "a:65536", "http"}, {"/", "", "http"}, {"/", ".a", "http"}, {"/", "a b", "http"}, {"/", "a ", "http"}, {"/", " a", "http"}, {"/", "a/", "http"}, {"/", "a/b", "http"}, {"/c", "a/b", "http"}, {"", "a/b", "http"}, {"", "a/", "http"}, {"/", "a?b", "http"}, {"?b", "a", "http"}, {"?b", "a/", "http"}, {"/", "b@a", "http"}, {"/", "//a", "http"}, {"/", "http://a", "http"}, {"/", "http://a", ""},
		{"/", "a", ""}, {"/", "a", "ftp"}, {"/", "a", "http:"}, {"/", "a", "http://"}, {"/", "a", "http "}, {"/", "a", " http"}, {"/", "://a", "http"}, {"/", "b", "http://a"}, {"/", "a", "http://b"}, {"/", "a", "http\x00"},
		{"", "a", "http"}, {"b", "a", "http"}, {"*", "a", "http"}, {":8/", "a", "http"}, {".b/", "a", "http"}, {"a/", "", "http"}, {"//a/", "", "http"}, {"http://a/", "a", "http"}, {"/.", "a", "http"}, {"/..", "a", "http"}, {"/./b", "a", "http"}, {"/b/../c", "a", "http"}, {"/?", "a", "http"}, {"/b?", "a", "http"}, {"/#", "a", "http"}, {"/#b", "a", "http"}, {"/?b#c", "a", "http"}, {"/b c", "a", "http"}, {"/b ", "a", "http"}, {" /", "a", "http"}, {"/\t", "a", "http"}, {"/\n", "a", "http"}, {"/\r", "a", "http"}, {"/\"", "a", "http"}, {"/\u00e9", "a", "http"}, {"/\x7f", "a", "http"},
	} {
		first := "GET " + l[0] + " HTTP/1.1\r\nHost: " + l[1] + "\r\nScheme: " + l[2] + "\r\n"
		mustNotParse(t, first+"\r\n")
		mustNotParse(t, first+"b: 1\r\nContent-Length: 4\r\n\r\nbody")
	}
}

// Whatever byte a URL has, Print takes it if url.Print writes it as it is.
func TestURLsOfEveryByte(t *testing.T) {
	for c := range 256 {
		for _, form := range []string{"*", "*http://a/", "http*://a/", "htt*://a/", "http*//a/", "http:*/a/", "http://*/", "http://a*/", "http://a*b/", "http://a:*/", "http://a:8*/", "http://a*", "http://a/*", "http://a/b*c", "http://a/b/*", "http://a/?*", "http://a/?b*c", "http://a/?b*"} {
			checkAsk(t, Ask{Method: "GET", URL: strings.ReplaceAll(form, "*", one(c))})
		}
	}
}

func TestHeads(t *testing.T) {
	mustPrint(t, get(at("a", "1")), top+"a: 1\r\n\r\n")
	mustPrint(t, get(at("b", "1"), at("A", "2"), at("a", "3")), top+"b: 1\r\nA: 2\r\na: 3\r\n\r\n")
	mustPrint(t, get(at("a", "1"), at("a", "1")), top+"a: 1\r\na: 1\r\n\r\n")
	mustPrint(t, get(at("a", ""), at("b", "")), top+"a: \r\nb: \r\n\r\n")
	mustPrint(t, get(at("a b", "c  d"), at("a", "b c")), top+"a b: c  d\r\na: b c\r\n\r\n")
	mustPrint(t, get(at("a", ":"), at("b", "c: d"), at("c", ": d"), at("d", "e:"), at("e", "::")), top+"a: :\r\nb: c: d\r\nc: : d\r\nd: e:\r\ne: ::\r\n\r\n")
	// Only a value's ends may have no blank.
	mustPrint(t, get(at(" ", "1"), at(" a", "1"), at("a ", "1"), at("  ", "")), top+" : 1\r\n a: 1\r\na : 1\r\n  : \r\n\r\n")
	// No name is long, and none is the machine's own.
	mustPrint(t, get(at(strings.Repeat("n", 100), strings.Repeat("v", 100)), at("~!", "\"%,;")), top+strings.Repeat("n", 100)+": "+strings.Repeat("v", 100)+"\r\n~!: \"%,;\r\n\r\n")
	mustPrint(t, get(at("Host", "b"), at("Scheme", "https"), at("Content-Length", "7")), top+"Host: b\r\nScheme: https\r\nContent-Length: 7\r\n\r\n")
	mustPrint(t, get(at("Host", "a"), at("Scheme", "http")), top+"Host: a\r\nScheme: http\r\n\r\n")
	mustPrint(t, get(at("GET / HTTP/1.1", "")), top+"GET / HTTP/1.1: \r\n\r\n")
	for n := range 20 {
		var l []api.Head
		lines := ""
		for i := range n {
			l = append(l, at(fmt.Sprint("name", i%7), strconv.Itoa(i)))
			lines += fmt.Sprintf("name%d: %d\r\n", i%7, i)
		}
		mustPrint(t, get(l...), top+lines+"\r\n")
	}
}

// A name is refused wherever it stands in the list, and so is a value.
func TestHeadsOfWrong(t *testing.T) {
	for _, h := range []api.Head{
		at("", ""), at("", "1"), at(":", "1"), at("a:", "1"), at(":a", "1"), at("a:b", "1"), at("a: b", "1"), at("a: ", ""), at("Host:", "a"),
		at("a", " "), at("a", "  "), at("a", " 1"), at("a", "1 "), at("a", " 1 "), at("a", "\t"), at("a", "1\t"), at("a", "\t1"), at("a", "b\tc"), at("a", "\r\n"), at("a", "\r"), at("a", "\n"), at("a", "b\r\nc: d"), at("a", "b\r\n\r\nc"), at("a\r\nb", "c"), at("\r\n", ""), at("\r\n\r\n", "a"), at("\ta", "1"), at("a\t", "1"), at("a\n", "1"),
		at("\x00", "1"), at("a", "\x00"), at("a", "\x1f"), at("a", "\x7f"), at("\x7f", ""), at("\x1f", ""), at("\u00e9", "1"), at("a", "\u00e9"), at("a", "\u00a0"), at("\xff", "1"), at("a", "\x80"),
	} {
		for n := range 4 {
			for k := range n + 1 {
				l := slices.Insert(slices.Repeat([]api.Head{at("b", "2")}, n), k, h)
				mustNotPrint(t, get(l...))
				a := get(l...)
				a.Body = "body"
				mustNotPrint(t, a)
			}
		}
	}
}

func TestEveryByte(t *testing.T) {
	for c := range 256 {
		for _, form := range []string{"*", "*b", "b*", "b*c", "**"} {
			s := strings.ReplaceAll(form, "*", one(c))
			if c >= 32 && c <= 126 && c != ':' {
				mustPrint(t, get(at(s, "1")), top+s+": 1\r\n\r\n")
			} else {
				mustNotPrint(t, get(at(s, "1")))
			}
			if c >= 33 && c <= 126 || c == 32 && form == "b*c" {
				mustPrint(t, get(at("a", s)), top+"a: "+s+"\r\n\r\n")
			} else {
				mustNotPrint(t, get(at("a", s)))
				mustNotParse(t, top+"a: "+s+"\r\n\r\n")
			}
			a := get(at("a", "1"))
			a.Body = s
			mustPrint(t, a, fmt.Sprintf("%sa: 1\r\nContent-Length: %d\r\n\r\n%s", top, len(s), s))
		}
	}
}

func TestBodies(t *testing.T) {
	for _, body := range []string{"x", " ", "\x00", "\xff", "\r", "\n", "\r\n", "\n\r", "\r\n\r\n", "\r\n\r\n\r\n", "\r\nx", "x\r\n", "x\r\n\r\n", "\r\n\r\nx", "one\r\n\r\ntwo", "a: 1", "a: 1\r\n\r\n", "Content-Length: 3", "Content-Length: 3\r\n\r\nabc", top, top + "\r\n", "\u00e9\u4e16", strings.Repeat("y", 32), strings.Repeat("y", 33), strings.Repeat("y", 9), strings.Repeat("y", 10), strings.Repeat("y", 99), strings.Repeat("y", 100), strings.Repeat("y", 12345)} {
		for _, l := range [][]api.Head{nil, {at("a", "1")}, {at("Content-Length", "3")}, {at("Content-Length", strconv.Itoa(len(body)))}, {at("b", ""), at("Content-Length", "0"), at("Content-Length", "1")}} {
			a := get(l...)
			a.Body = body
			lines := ""
			for _, h := range l {
				lines += h.Name + ": " + h.Value + "\r\n"
			}
			mustPrint(t, a, top+lines+"Content-Length: "+strconv.Itoa(len(body))+"\r\n\r\n"+body)
		}
	}
	for n := range 300 {
		a := get()
		a.Body = strings.Repeat("\r\n!", n)[:n]
		if n > 0 {
			mustPrint(t, a, fmt.Sprintf("%sContent-Length: %d\r\n\r\n%s", top, n, a.Body))
		}
	}
}

func TestLengthsOfWrong(t *testing.T) {
	const body = "0123456789"
	for n := range 30 {
		if n != len(body) {
			mustNotParse(t, fmt.Sprintf("%sContent-Length: %d\r\n\r\n%s", top, n, body))
			mustNotParse(t, fmt.Sprintf("%sa: 1\r\nContent-Length: %d\r\n\r\n%s", top, n, body))
		}
	}
	for _, line := range []string{
		"", "Content-Length: 010", "Content-Length: 0010", "Content-Length: +10", "Content-Length: -10", "Content-Length: 10 ", "Content-Length:  10", "Content-Length:10", "Content-Length : 10", " Content-Length: 10", "Content-Length: 10.", "Content-Length: 1e1", "Content-Length: 0xa", "Content-Length: 0xA", "Content-Length: x", "Content-Length: ", "Content-Length:", "Content-Length", "Content-Length: 10, 10", "Content-Length: 1_0", "Content-Length: \uff11\uff10", "Content-Length: 1 0", "Content-Length: 18446744073709551626", "Content-Length: 4294967306",
		"content-length: 10", "Content-length: 10", "CONTENT-LENGTH: 10", "Content-Lengt: 10", "Content-Lengthx: 10", "ContentLength: 10", "Content_Length: 10", "Length: 10", "a: 10", "a: 1", "10", ": 10",
		"Content-Length: 10\r\na: 1", "Content-Length: 10\r\nContent-Length: 9", "Content-Length: 10\r\ncontent-length: 10",
	} {
		if line != "" {
			line += "\r\n"
		}
		mustNotParse(t, top+line+"\r\n"+body)
		mustNotParse(t, top+"b: 2\r\n"+line+"\r\n"+body)
	}
	// Without a body no length is told; one that is there is a header.
	for _, n := range []string{"0", "1", "00", "x", ""} {
		mustPrint(t, get(at("Content-Length", n)), top+"Content-Length: "+n+"\r\n\r\n")
	}
	// A length of Host's place is Host's.
	mustNotParse(t, "GET / HTTP/1.1\r\nHost: a\r\nContent-Length: 1\r\n\r\nx")
	mustNotParse(t, "GET / HTTP/1.1\r\nContent-Length: 1\r\n\r\nx")
	mustNotParse(t, "GET / HTTP/1.1\r\n\r\nx")
	mustNotParse(t, "Content-Length: 1\r\n\r\nx")
	mustNotParse(t, "Content-Length: 1\r\nGET / HTTP/1.1\r\nHost: a\r\nScheme: http\r\n\r\nx")
	mustNotParse(t, "GET / HTTP/1.1\r\nContent-Length: 1\r\nHost: a\r\nScheme: http\r\n\r\nx")
}

func TestParseOfWrong(t *testing.T) {
	for _, s := range []string{
		"", " ", "x", "\r", "\n", "\r\n", "\r\n\r\n", "\r\n\r\n\r\n", "\r\n\r\n\r\n\r\n\r\n", "\n\n", ": ", ": \r\n: \r\n: \r\n\r\n", "GET", "GET / HTTP/1.1", "GET / HTTP/1.1\r\n", "GET / HTTP/1.1\r\n\r\n", "GET / HTTP/1.1\r\nHost: a\r\n\r\n", "GET / HTTP/1.1\r\nHost: a\r\n", top[:len(top)-2], top, top + "\r", top + "\n", top + "a: 1", top + "a: 1\r\n", top + "a: 1\r\n\r", top + "a: 1\r\n\n", "HTTP/1.1 200 -\r\n\r\n", "a: 1\r\n\r\n",
		"GET / HTTP/1.1\r\nScheme: http\r\nHost: a\r\n\r\n", "Host: a\r\nGET / HTTP/1.1\r\nScheme: http\r\n\r\n", "Host: a\r\nScheme: http\r\nGET / HTTP/1.1\r\n\r\n", "Scheme: http\r\nHost: a\r\nGET / HTTP/1.1\r\n\r\n", "GET / HTTP/1.1\r\nb: 1\r\nHost: a\r\nScheme: http\r\n\r\n", "GET / HTTP/1.1\r\nHost: a\r\nb: 1\r\nScheme: http\r\n\r\n", "GET / HTTP/1.1\r\nHost: a\r\nHost: a\r\n\r\n", "GET / HTTP/1.1\r\nHost: a\r\nHost: a\r\nScheme: http\r\n\r\n", "GET / HTTP/1.1\r\nGET / HTTP/1.1\r\nHost: a\r\nScheme: http\r\n\r\n", "GET / HTTP/1.1\r\nScheme: http\r\n\r\n",
		top + "\r\n\r\n", top + "\r\nx", top + "\r\na: 1\r\n\r\n", top + "\r\n" + top + "\r\n", top + "a: 1\r\n\r\nx", "\r\n" + top + "\r\n", " " + top + "\r\n", "x" + top + "\r\n", "\x00" + top + "\r\n", "\ufeff" + top + "\r\n", "\n" + top + "\r\n",
		top + "a\r\n\r\n", top + "a:1\r\n\r\n", top + "a:\r\n\r\n", top + ":\r\n\r\n", top + ": \r\n\r\n", top + ": 1\r\n\r\n", top + " \r\n\r\n", top + "a 1\r\n\r\n", top + "a :1\r\n\r\n", top + "a:\t1\r\n\r\n", top + "a\t: 1\r\n\r\n", top + "a:  1\r\n\r\n", top + "a: 1 \r\n\r\n", top + "a:  \r\n\r\n", top + "a::  1\r\n\r\n", top + "a:: 1\r\n\r\n", top + "a:b: 1\r\n\r\n", top + ":a: 1\r\n\r\n", top + "a: 1\r\nb\r\n\r\n", top + "b\r\na: 1\r\n\r\n", top + "a: 1\r\n b\r\n\r\n", top + "a;1\r\n\r\n",
		top + "a: 1\n\r\n", top + "a: 1\r\r\n\r\n", top + "a: 1\n\r\n\r\n", top + "a: 1\nb: 2\r\n\r\n", top + "a: 1\rb: 2\r\n\r\n", top + "\na: 1\r\n\r\n", top + "a: \r\r\n\r\n", top + "a: 1\r\n\r\r\n\r\n", "GET / HTTP/1.1\nHost: a\nScheme: http\n\n", "GET / HTTP/1.1\rHost: a\rScheme: http\r\r", "GET / HTTP/1.1\n\rHost: a\n\rScheme: http\n\r\n\r", "GET / HTTP/1.1\nHost: a\r\nScheme: http\r\n\r\n", "GET / HTTP/1.1\r\nHost: a\nScheme: http\r\n\r\n", "GET / HTTP/1.1\r\nHost: a\r\nScheme: http\n\r\n", "GET / HTTP/1.1\r\nHost: a\r\nScheme: http\r\n\n", "GET / HTTP/1.1\r\nHost: a\r\nScheme: http\r\n\r", "GET / HTTP/1.1\r\r\nHost: a\r\nScheme: http\r\n\r\n", "GET / HTTP/1.1\r\n\nHost: a\r\nScheme: http\r\n\r\n",
		"GET / HTTP/1.1\r\n Host: a\r\nScheme: http\r\n\r\n", "GET / HTTP/1.1\r\nHost:a\r\nScheme: http\r\n\r\n", "GET / HTTP/1.1\r\nHost:  a\r\nScheme: http\r\n\r\n", "GET / HTTP/1.1\r\nHost : a\r\nScheme: http\r\n\r\n", "GET / HTTP/1.1\r\nHost a\r\nScheme: http\r\n\r\n", "GET / HTTP/1.1\r\nhost: a\r\nScheme: http\r\n\r\n", "GET / HTTP/1.1\r\nHOST: a\r\nScheme: http\r\n\r\n", "GET / HTTP/1.1\r\na\r\nScheme: http\r\n\r\n", "GET / HTTP/1.1\r\nHost: a\r\nhttp\r\n\r\n", "GET / HTTP/1.1\r\na\r\nhttp\r\n\r\n", "GET / HTTP/1.1\r\nHost: Host: a\r\nScheme: http\r\n\r\n", "GET / HTTP/1.1\r\nHost: a\r\nScheme: Scheme: http\r\n\r\n", "GET / HTTP/1.1\r\nHost: a\r\nscheme: http\r\n\r\n", "GET / HTTP/1.1\r\nHost: a\r\nScheme:http\r\n\r\n", "GET / HTTP/1.1\r\nHost: a\r\nSCHEME: http\r\n\r\n", "GET / HTTP/1.1\r\nHost: a\r\nScheme: http \r\n\r\n", "GET / HTTP/1.1\r\nHost: a:80\r\nScheme: http\r\n\r\n",
	} {
		mustNotParse(t, s)
	}
	for _, line := range []string{
		"", " ", "  ", "GET", "GET ", " GET", "/", " / ", "GET /", "GET / ", "GET  HTTP/1.1", "GET HTTP/1.1", " / HTTP/1.1", "/ HTTP/1.1", "GET / /b HTTP/1.1", "GET /  HTTP/1.1", "GET  / HTTP/1.1", "GET / HTTP/1.1 ", " GET / HTTP/1.1", "GET / HTTP/1.1 x", "GET / x HTTP/1.1", "GET\t/ HTTP/1.1", "GET /\tHTTP/1.1", "GET/ HTTP/1.1", "GET /HTTP/1.1", "GET / HTTP/1.1 HTTP/1.1", "GET / HTTP/1.0", "GET / HTTP/1.2", "GET / HTTP/2", "GET / HTTP/2.1", "GET / http/1.1", "GET / HTTP/1.1.", "GET / HTTP/1.", "GET / HTTP", "GET / HTTP/11", "HTTP/1.1 / GET", "HTTP/1.1", " HTTP/1.1", "get / HTTP/1.1", "GET /../ HTTP/1.1", "GET http://a/ HTTP/1.1", "GET * HTTP/1.1", "GET a HTTP/1.1",
	} {
		mustNotParse(t, line+"\r\nHost: a\r\nScheme: http\r\n\r\n")
		mustNotParse(t, line+"\r\nHost: a\r\nScheme: http\r\na: 1\r\nContent-Length: 1\r\n\r\nx")
	}
}

// Cut off at its end, a text is a print only if it ends just ahead of its body:
// the length is a header then.
func TestBeginnings(t *testing.T) {
	const whole = top + "a: 1\r\nb: \r\n\r\n"
	mustParse(t, whole, get(at("a", "1"), at("b", "")))
	const long = top + "a: 1\r\nContent-Length: 5\r\n\r\n\r\n\r\nx"
	a := get(at("a", "1"))
	a.Body = "\r\n\r\nx"
	mustParse(t, long, a)
	for n := range len(whole) {
		mustNotParse(t, whole[:n])
		checkText(t, whole[n:])
	}
	for n := range len(long) {
		if long[:n] != top+"a: 1\r\nContent-Length: 5\r\n\r\n" {
			mustNotParse(t, long[:n])
		}
		checkText(t, long[n:])
	}
	mustNotParse(t, whole[len("GET"):])
	mustNotParse(t, whole[len("GET "):])
	mustParse(t, long[:len(long)-len(a.Body)], get(at("a", "1"), at("Content-Length", "5")))
	for c := range 256 {
		mustNotParse(t, whole+one(c))
		mustNotParse(t, one(c)+"\r\n"+whole)
		mustNotParse(t, long+one(c))
		mustNotParse(t, one(c)+"\r\n"+long)
	}
}

var (
	methodPattern = regexp.MustCompile(`\A[A-Z]{1,8}\z`)
	namePattern   = regexp.MustCompile(`\A[ -9;-~]+\z`)
	valuePattern  = regexp.MustCompile(`\A(?:[!-~](?:[ -~]*[!-~])?)?\z`)
	textPattern   = regexp.MustCompile(`(?s)\A([A-Z]{1,8}) (/[^ ]*) HTTP/1\.1\r\nHost: ([^\r\n/?#]*)\r\nScheme: (https?)\r\n((?:[ -9;-~]+: (?:[!-~](?:[ -~]*[!-~])?)?\r\n)*?)(?:\r\n|Content-Length: ([1-9][0-9]*)\r\n\r\n(.+))\z`)
)

// printed is Print by another way: the whole of it by one form.
func printed(a Ask) (s string, ok bool) {
	u, e := url.Parse(a.URL)
	if e != api.OK || url.Print(u) != a.URL || !methodPattern.MatchString(a.Method) {
		return "", false
	}
	host := strings.SplitN(url.Origin(u), "//", 2)[1]
	lines := ""
	for _, h := range a.Heads {
		if !namePattern.MatchString(h.Name) || !valuePattern.MatchString(h.Value) {
			return "", false
		}
		lines += fmt.Sprintf("%s: %s\r\n", h.Name, h.Value)
	}
	if a.Body != "" {
		lines += fmt.Sprintf("Content-Length: %d\r\n", len(a.Body))
	}
	path := strings.TrimPrefix(a.URL, url.Origin(u))
	return fmt.Sprintf("%s %s HTTP/1.1\r\nHost: %s\r\nScheme: %s\r\n%s\r\n%s", a.Method, path, host, u.Scheme, lines, a.Body), true
}

// parsed is Parse by another way: by one pattern of the whole text.
func parsed(s string) (a Ask, ok bool) {
	m := textPattern.FindStringSubmatch(s)
	if m == nil {
		return Ask{}, false
	}
	a = Ask{Method: m[1], URL: m[4] + "://" + m[3] + m[2], Body: m[7]}
	u, e := url.Parse(a.URL)
	if e != api.OK || url.Print(u) != a.URL || u.Path+u.Query != m[2] {
		return Ask{}, false
	}
	if a.Body != "" && strconv.Itoa(len(a.Body)) != m[6] {
		return Ask{}, false
	}
	for _, line := range strings.SplitAfter(m[5], "\r\n") {
		if name, value, found := strings.Cut(line, ":"); found {
			a.Heads = append(a.Heads, at(name, strings.TrimSuffix(value[1:], "\r\n")))
		}
	}
	return a, true
}

// checkAsk holds Print against another way to its answer.
func checkAsk(t *testing.T, a Ask) {
	t.Helper()
	if s, ok := printed(a); ok {
		mustPrint(t, a, s)
		checkText(t, s)
	} else {
		mustNotPrint(t, a)
	}
}

// checkText holds Parse against another way to its answer.
func checkText(t *testing.T, s string) {
	t.Helper()
	a, ok := parsed(s)
	if !ok {
		mustNotParse(t, s)
		return
	}
	mustPrint(t, a, s)
}

func TestAllShortTexts(t *testing.T) {
	pieces := []string{"\r\n", "\r", "\n", "a", ":", " ", "1", ": ", "\x1f", "Content-Length: "}
	var each func(s string, left int)
	each = func(s string, left int) {
		checkText(t, s)
		checkText(t, top+s)
		checkText(t, top+s+"\r\n\r\n")
		checkText(t, top+s+"\r\n\r\nx")
		checkText(t, "GET /"+s+" HTTP/1.1\r\nHost: a\r\nScheme: http\r\n\r\n")
		checkText(t, "GET / HTTP/1.1\r\nHost: a"+s+"\r\nScheme: http\r\n\r\n")
		checkAsk(t, get(at(s, "")))
		checkAsk(t, get(at("a", s)))
		checkAsk(t, Ask{Method: "M", URL: "http://a/" + s, Body: s})
		if left > 0 {
			for _, piece := range pieces {
				each(s+piece, left-1)
			}
		}
	}
	each("", 4)
}

func TestManyTexts(t *testing.T) {
	chance := rand.New(rand.NewSource(10))
	pick := func(l ...string) string { return l[chance.Intn(len(l))] }
	for range 40000 {
		a := Ask{Method: pick("GET", "POST", "OPTIONS", "M", "ABCDEFGH", "PUT", "HEAD", "ABCDEFGHI", "get"), Body: pick("", "", "x", "\r\n", "one\r\n\r\ntwo", "Content-Length: 1\r\n\r\nx", strings.Repeat("long", 40))}
		a.URL = pick("http", "https", "https", "http", "HTTP") + "://" + pick("a", "a.b", "localhost", "c-d.e", "B") + pick("", "", ":8", ":80", ":443", ":65535") + pick("/", "/", "/b", "/b/c", "", "/../", "/b%20") + pick("", "", "?d", "?d=e/f", "?", "#")
		for range chance.Intn(5) {
			a.Heads = append(a.Heads, at(pick("a", "Name-9", "Content-Length", "Host", "Scheme", "x y", "a", "b", "c", "d", "e", "a:", ""), pick("", "1", "x y", "b: c", "~", "1", "2", " x", "y ")))
		}
		checkAsk(t, a)
		s, ok := printed(a)
		if !ok {
			s = pick("GET", "PUT") + " / HTTP/1.1\r\nHost: " + pick("a", "b", "a:80") + "\r\nScheme: http\r\n" + pick("", "a: 1\r\n", "a:1\r\n") + pick("", "Content-Length: 3\r\n", "Content-Length: 1\r\n") + "\r\n" + pick("", "abc", "x")
		}
		// The same with one byte another, one more, one less, or two exchanged.
		k := chance.Intn(len(s) - 1)
		c := one(chance.Intn(256))
		checkText(t, s[:k]+c+s[k+1:])
		checkText(t, s[:k]+c+s[k:])
		checkText(t, s[:k]+s[k+1:])
		checkText(t, s[:k]+s[k+1:k+2]+s[k:k+1]+s[k+2:])
		checkText(t, s[:k])
	}
}

func TestLong(t *testing.T) {
	const n = 1 << 20
	long := strings.Repeat("x", n)
	mustPrint(t, get(at(long, long)), top+long+": "+long+"\r\n\r\n")
	a := get(slices.Repeat([]api.Head{at("a", "1")}, n)...)
	mustPrint(t, a, top+strings.Repeat("a: 1\r\n", n)+"\r\n")
	a.Body = strings.Repeat("\r\n", n)
	mustPrint(t, a, top+strings.Repeat("a: 1\r\n", n)+fmt.Sprintf("Content-Length: %d\r\n\r\n", 2*n)+a.Body)
	mustNotPrint(t, Ask{Method: strings.Repeat("G", n), URL: "http://a/"})
	mustNotPrint(t, Ask{Method: "GET", URL: "http://a/" + long})
	mustNotPrint(t, Ask{Method: "GET", URL: "http://a/" + strings.Repeat("../", n)})
	mustNotPrint(t, get(at(strings.Repeat(":", n), long)))
	mustNotPrint(t, get(at("a", strings.Repeat(" ", n))))
	mustNotParse(t, long)
	mustNotParse(t, strings.Repeat(" ", n))
	mustNotParse(t, strings.Repeat("\r\n", n))
	mustNotParse(t, strings.Repeat("\r", n))
	mustNotParse(t, strings.Repeat("a: 1\r\n", n)+"\r\n")
	mustNotParse(t, top+strings.Repeat("\r\n", n))
	mustNotParse(t, top+"\r\n"+long)
	mustNotParse(t, "GET /"+long+" HTTP/1.1\r\nHost: a\r\nScheme: http\r\n\r\n")
	mustNotParse(t, top+"Content-Length: "+strings.Repeat("9", n)+"\r\n\r\nx")
}

// inside tells whether part lies in the memory of whole.
func inside(part, whole string) bool {
	at := uintptr(unsafe.Pointer(unsafe.StringData(part)))
	from := uintptr(unsafe.Pointer(unsafe.StringData(whole)))
	return part != "" && at >= from && at < from+uintptr(len(whole))
}

// What is handed in stays as it was, also what lies behind its length; what is
// answered shares no memory with it, nor with an earlier answer, and the same
// argument has the same answer again.
func TestMemory(t *testing.T) {
	const s = "POST /path?query HTTP/1.1\r\nHost: host\r\nScheme: https\r\nName: value\r\nOther: more\r\nContent-Length: 4\r\n\r\nbody"
	a, _ := Parse(s)
	b, _ := Parse(s)
	if !same(a, b) {
		t.Errorf("Parse(%q) = %v, then %v", s, a, b)
	}
	for _, part := range []string{a.Method, a.URL, a.Body, a.Heads[0].Name, a.Heads[0].Value, a.Heads[1].Name, a.Heads[1].Value} {
		if inside(part, s) {
			t.Errorf("of Parse(%q) %q is the memory of its argument", s, part)
		}
	}
	kept := slices.Clone(b.Heads)
	a.Heads[0] = at("changed", "too")
	_ = append(a.Heads, at("appended", ""))
	if c, _ := Parse(s); !slices.Equal(b.Heads, kept) || !same(b, c) {
		t.Errorf("Parse(%q) = %v, and when another answer was changed %v", s, b, c)
	}
	all := []api.Head{at("Z", "last"), at("b", "value"), at("a", "behind")}
	kept = slices.Clone(all)
	given := Ask{Method: "GET", URL: "http://a/", Heads: all[:2], Body: "body"}
	const want = top + "Z: last\r\nb: value\r\nContent-Length: 4\r\n\r\nbody"
	mustPrint(t, given, want)
	mustPrint(t, given, want)
	if !slices.Equal(all, kept) || !same(given, Ask{Method: "GET", URL: "http://a/", Heads: kept[:2], Body: "body"}) {
		t.Errorf("what was handed in became %v, %v", given, all)
	}
}

func FuzzParse(f *testing.F) {
	for _, s := range []string{"", top, top + "\r\n", top + "a: 1\r\n\r\n", top + "Content-Length: 3\r\n\r\nabc", top + "Content-Length: 3\r\nContent-Length: 9\r\n\r\nabc\r\n\r\nde", top + "a\r\n\r\n", "POST /a?b HTTP/1.1\r\nHost: a.b:8\r\nScheme: https\r\na b: c: d\r\n\r\n", "a: 1\r\n\r\n"} {
		f.Add(s)
	}
	f.Fuzz(func(t *testing.T, s string) {
		checkText(t, s)
		checkText(t, top+s)
		checkText(t, "GET / HTTP/1.1\r\nHost: "+s)
	})
}

func FuzzPrint(f *testing.F) {
	f.Add("GET", "http://a/", "a", "1", "b", "", "body")
	f.Add("", "", "", "", "", "", "")
	f.Add("POST", "https://a.b:8/c?d", "Content-Length", "3", "Host", "x", "\r\n\r\n")
	f.Add("get", "HTTP://A:80", "a:", " 1", "\r", "\n", "")
	f.Fuzz(func(t *testing.T, method, text, name, value, other, more, body string) {
		checkAsk(t, Ask{Method: method, URL: text, Heads: []api.Head{at(name, value), at(other, more)}, Body: body})
		checkAsk(t, Ask{Method: "GET", URL: "http://a/", Heads: []api.Head{at(name, value), at(other, more)}, Body: body})
		checkAsk(t, Ask{Method: "GET", URL: "http://a/" + text, Body: body})
	})
}
