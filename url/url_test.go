package url

import (
	"fmt"
	"math/rand"
	"regexp"
	"slices"
	"strconv"
	"strings"
	"testing"
	"unsafe"

	"postilion/api"
	"postilion/pct"
)

// mustParse wants s to be the URL want, and to be so again once printed.
func mustParse(t *testing.T, s string, want URL) {
	t.Helper()
	u, e := Parse(s)
	if u != want || e != api.OK {
		t.Errorf("Parse(%.60q) = %+v, %d; want %+v", s, u, e, want)
		return
	}
	if again, e := Parse(Print(u)); again != want || e != api.OK {
		t.Errorf("Parse(%q), what Parse(%.60q) prints, = %+v, %d; want %+v", Print(u), s, again, e, want)
	}
}

// mustPrint wants s to be a URL that is printed as want, which is one as well.
func mustPrint(t *testing.T, s, want string) {
	t.Helper()
	for _, s := range []string{s, want} {
		if u, e := Parse(s); Print(u) != want || e != api.OK {
			t.Errorf("Parse(%.60q) = %+v, %d; want %q", s, u, e, want)
		}
	}
}

func mustNotParse(t *testing.T, s string) {
	t.Helper()
	if u, e := Parse(s); u != (URL{}) || e != api.ErrForm {
		t.Errorf("Parse(%.60q) = %+v, %d; want nothing and ErrForm", s, u, e)
	}
}

// at is the URL that a test's own text stands for.
func at(t *testing.T, s string) URL {
	t.Helper()
	u, e := Parse(s)
	if e != api.OK {
		t.Fatalf("Parse(%q) = %d", s, e)
	}
	return u
}

func TestParse(t *testing.T) {
	for s, want := range map[string]URL{
		"http://a":                      {"http", "a", 0, "/", ""},
		"https://a":                     {"https", "a", 0, "/", ""},
		"HTTP://A.b:80":                 {"http", "a.b", 0, "/", ""},
		"hTtPs://LOCALhost:8443":        {"https", "localhost", 8443, "/", ""},
		"https://a.b:8/c/d?e=f#g":       {"https", "a.b", 8, "/c/d", "?e=f"},
		"http://a/B/C?D=E":              {"http", "a", 0, "/B/C", "?D=E"},
		"http://a?x":                    {"http", "a", 0, "/", "?x"},
		"http://a:1?x":                  {"http", "a", 1, "/", "?x"},
		"http://a:1#x":                  {"http", "a", 1, "/", ""},
		"http://a?x/../y:8":             {"http", "a", 0, "/", "?x/../y:8"},
		"http://a/x:8@y/http://z":       {"http", "a", 0, "/x:8@y/http://z", ""},
		"http://a/b?c?d":                {"http", "a", 0, "/b", "?c%3Fd"},
		"http://a/b??":                  {"http", "a", 0, "/b", "?%3F"},
		"http://a/b?/./c":               {"http", "a", 0, "/b", "?/./c"},
		"http://a/b?":                   {"http", "a", 0, "/b", ""},
		"http://a?":                     {"http", "a", 0, "/", ""},
		"http://a/b?#c":                 {"http", "a", 0, "/b", ""},
		"http://a/b#":                   {"http", "a", 0, "/b", ""},
		"http://a/b?c#":                 {"http", "a", 0, "/b", "?c"},
		"http://a/b#c?d":                {"http", "a", 0, "/b", ""},
		"http://a/b#c#d/../e":           {"http", "a", 0, "/b", ""},
		"http://a#://b":                 {"http", "a", 0, "/", ""},
		"http://a/b c?d e":              {"http", "a", 0, "/b%20c", "?d%20e"},
		"http://a/\"<>?`{}":             {"http", "a", 0, "/%22%3C%3E", "?%60%7B%7D"},
		"http://a/`{}?\"<>":             {"http", "a", 0, "/%60%7B%7D", "?%22%3C%3E"},
		"http://a/%41%2f%zz?%41%":       {"http", "a", 0, "/%41%2f%zz", "?%41%"},
		"http://a/\u00e9?\u20ac":        {"http", "a", 0, "/%C3%A9", "?%E2%82%AC"},
		"http://a/\xff?\xc3":            {"http", "a", 0, "/%EF%BF%BD", "?%EF%BF%BD"},
		"http://a/\x00\t?\n\x7f":        {"http", "a", 0, "/%00%09", "?%0A%7F"},
		" \t\r\n\x00http://a/b\x1f\v ":  {"http", "a", 0, "/b", ""},
		" http://a ":                    {"http", "a", 0, "/", ""},
		"http://a/b ?c #d ":             {"http", "a", 0, "/b%20", "?c%20"},
		"http://a/ #":                   {"http", "a", 0, "/%20", ""},
		"http://a/?&=;+$,!'()*[]\\^|~@": {"http", "a", 0, "/", "?&=;+$,!'()*[]\\^|~@"},
		"http://0/":                     {"http", "0", 0, "/", ""},
		"http://127.0.0.1/":             {"http", "127.0.0.1", 0, "/", ""},
		"http://-.-/":                   {"http", "-.-", 0, "/", ""},
		"http://--/":                    {"http", "--", 0, "/", ""},
		"http://a.b.c.d.e.f:9/":         {"http", "a.b.c.d.e.f", 9, "/", ""},
	} {
		mustParse(t, s, want)
	}
}

func TestParseRefuses(t *testing.T) {
	for _, s := range []string{
		"", " ", "a", "/", "//", "//a/", "/a", "?", "#", ":", "://", "://a", "a.b:80", "localhost", // no scheme
		"http", "http:", "http:/", "http:/a", "http//a", "http:a", "http:///a", "http:\\\\a", "http :// a", "http: //a", "http:?//a", "http:#//a", "http?://a", "http#://a",
		"ftp://a/", "ws://a/", "wss://a/", "file:///a", "httpss://a/", "htt://a/", "xhttp://a/", "http\x00://a/", "HTTP S://a/", "http\u017f://a/", "data:a", "x/http://a/",
		"http://", "https://", "http:///", "http://?", "http://#", "http://?a", "http://#a", "http://:80", "http://:80/", "http:// /", // no host
		"http://.", "http://..", "http://.a/", "http://a./", "http://a.:80/", "http://.a.b/", "http://a..b/", "http://a...b", "http://..a", "http://a..",
		"http://a b/", "http:// a/", "http://a /", "http://a_b/", "http://u@a/", "http://u:p@a/", "http://[a]/", "http://[::1]/", "http://*/", "http://*.a/", "http://a\\b/", "http://%61/", "http://a%2eb/", "http://a,b/", "http://a\x00b/", "http://\u00e9/", "http://a\u3002b/", "http://\u212a/", "http://\uff41/", "http://a\xff/",
		"http://a:", "http://a:/", "http://a:?x", "http://a:#x", "http://a: /", "http://a::1/", "http://a:1:/", "http://a:1:2/", "http://a:80:80/",
		"http://a:x/", "http://a:1x/", "http://a:x1/", "http://a:-1/", "http://a:+1/", "http://a:1_0/", "http://a:0x1/", "http://a:1e1/", "http://a:1.0/", "http://a: 1/", "http://a:1 /", "http://a:\u0661/", "http://a:%31/",
		"http://a:65536/", "http://a:65540/", "http://a:70000/", "http://a:99999/", "http://a:100000/", "http://a:000080/", "http://a:000000/", "http://a:655350/", "http://a:18446744073709551696/", "http://a:4294967376/",
	} {
		mustNotParse(t, s)
	}
}

func TestSchemes(t *testing.T) {
	for _, scheme := range []string{"http", "https"} {
		// Every choice of small and great letters.
		for set := range 1 << len(scheme) {
			b := []byte(scheme)
			for i := range b {
				if set>>i&1 == 1 {
					b[i] -= 'a' - 'A'
				}
			}
			mustParse(t, string(b)+"://a/", URL{scheme, "a", 0, "/", ""})
		}
		// Every other byte in the place of one of its letters.
		for i := range scheme {
			for c := range 256 {
				s := scheme[:i] + string([]byte{byte(c)}) + scheme[i+1:]
				if !strings.EqualFold(s, scheme) {
					mustNotParse(t, s+"://a/")
				}
			}
		}
	}
}

func TestHostOfEveryByte(t *testing.T) {
	for c := range 256 {
		s := string([]byte{byte(c)})
		small := strings.ToLower(s)
		switch {
		case strings.Contains("abcdefghijklmnopqrstuvwxyzABCDEFGHIJKLMNOPQRSTUVWXYZ0123456789-", s):
			mustParse(t, "http://"+s, URL{"http", small, 0, "/", ""})
			mustParse(t, "http://"+s+"x/", URL{"http", small + "x", 0, "/", ""})
			mustParse(t, "http://x"+s+":8", URL{"http", "x" + small, 8, "/", ""})
			mustParse(t, "http://x"+s+".y?", URL{"http", "x" + small + ".y", 0, "/", ""})
			mustParse(t, "http://x."+s+"y", URL{"http", "x." + small + "y", 0, "/", ""})
		case s == ".":
			mustParse(t, "http://x.y/", URL{"http", "x.y", 0, "/", ""})
		case strings.Contains(":/?#", s): // they end the host
		default:
			mustNotParse(t, "http://"+s+"x/")
			mustNotParse(t, "http://x"+s+"y/")
			mustNotParse(t, "http://x"+s+"/")
			mustNotParse(t, "http://x.y"+s+":8")
		}
	}
}

func TestHostLengths(t *testing.T) {
	const letters = "aB3-.D6e.7.h0-9.x.yZ" // 20
	for n := 1; n <= len(letters); n++ {
		host := letters[:n]
		small := strings.ToLower(host)
		if strings.HasSuffix(host, ".") {
			mustNotParse(t, "http://"+host+"/")
			continue
		}
		mustParse(t, "http://"+host+"/", URL{"http", small, 0, "/", ""})
		mustParse(t, "https://"+host, URL{"https", small, 0, "/", ""})
		mustParse(t, "https://"+host+":7/", URL{"https", small, 7, "/", ""})
	}
	for n := range 30 {
		host := strings.Repeat("a", n)
		if n >= 1 && n <= 20 {
			mustParse(t, "http://"+host, URL{"http", host, 0, "/", ""})
		} else {
			mustNotParse(t, "http://"+host)
			mustNotParse(t, "https://"+host+":7/")
		}
	}
	mustNotParse(t, "http://"+letters+"a/")
	mustNotParse(t, "http://"+letters+"./")
	mustNotParse(t, "http://"+strings.Repeat("a.", 11)+"a/")
}

func TestPorts(t *testing.T) {
	for n := range 120000 {
		form := fmt.Sprintf("%%0%dd", 1+n%6) // with zeros ahead, or none
		digits := fmt.Sprintf(form, n)
		for scheme, own := range map[string]int{"http": 80, "https": 443} {
			s := scheme + "://a:" + digits
			if len(digits) > 5 || n > 65535 {
				mustNotParse(t, s)
			} else if n == own {
				mustParse(t, s+"/x", URL{scheme, "a", 0, "/x", ""})
			} else {
				mustParse(t, s+"/x", URL{scheme, "a", n, "/x", ""})
			}
		}
	}
	for s, port := range map[string]int{
		"http://a:80": 0, "http://a:080": 0, "http://a:00080": 0, "http://a:443": 443, "http://a:00443/": 443,
		"https://a:443": 0, "https://a:0443": 0, "https://a:00443": 0, "https://a:80": 80, "https://a:00080": 80,
		"http://a:0": 0, "https://a:00000/": 0, "http://a:1": 1, "http://a:00001": 1, "http://a:9": 9, "http://a:10000": 10000, "http://a:65535": 65535, "https://a:65535": 65535, "HTTP://a:80": 0, "HTTPS://a:443": 0,
	} {
		if u := at(t, s); u.Port != port {
			t.Errorf("%s: port %d; want %d", s, u.Port, port)
		}
	}
}

func TestPortOfEveryByte(t *testing.T) {
	for c := range 256 {
		s := string([]byte{byte(c)})
		switch {
		case c >= '0' && c <= '9':
			mustParse(t, "http://a:1"+s+"2/", URL{"http", "a", 102 + 10*(c-'0'), "/", ""})
		case s == "/":
			mustParse(t, "http://a:1"+s+"2", URL{"http", "a", 1, "/2", ""})
		case s == "?":
			mustParse(t, "http://a:1"+s+"2", URL{"http", "a", 1, "/", "?2"})
		case s == "#":
			mustParse(t, "http://a:1"+s+"2", URL{"http", "a", 1, "/", ""})
		default:
			mustNotParse(t, "http://a:"+s+"/")
			mustNotParse(t, "http://a:"+s+"1/")
			mustNotParse(t, "http://a:1"+s+"2/")
			mustNotParse(t, "http://a:1"+s+"/")
		}
	}
}

func TestPaths(t *testing.T) {
	for path, want := range map[string]string{
		"": "/", "/": "/", "//": "//", "///": "///",
		"/a": "/a", "/a/": "/a/", "/a/b": "/a/b", "/a//b": "/a//b", "//a": "//a", "/a//": "/a//",
		"/.": "/", "/./": "/", "/./.": "/", "/././": "/", "/./a": "/a", "/a/.": "/a/", "/a/./": "/a/", "/a/./b": "/a/b", "/a/././b": "/a/b", "/a/b/././.": "/a/b/",
		"/..": "/", "/../": "/", "/../..": "/", "/../../": "/", "/../a": "/a", "/../../a": "/a", "/../../../a/": "/a/",
		"/a/..": "/", "/a/../": "/", "/a/../b": "/b", "/a/b/..": "/a/", "/a/b/../": "/a/", "/a/b/../c": "/a/c",
		"/a/b/../..": "/", "/a/b/../../": "/", "/a/b/../../c": "/c", "/a/../b/../c": "/c", "/a/b/../../../../c": "/c", "/a/../../b/../../c/d": "/c/d",
		"/a/./..": "/", "/a/./../b": "/b", "/a/../.": "/", "/a/.././b": "/b", "/a/b/./..": "/a/", "/a/b/.././": "/a/", "/b/c/./../d/": "/b/d/",
		"//..": "/", "//../": "/", "//../a": "/a", "//.": "//", "//./": "//", "//./a": "//a", "///..": "//", "///../..": "/", "/a//..": "/a/", "/a//../b": "/a/b", "/a//../..": "/", "/a/..//b": "//b", "/..//..//": "//", "/.//a": "//a", "/..//a": "//a", "/a/.//": "/a//",
		"/...": "/...", "/....": "/....", "/a/...": "/a/...", "/.../..": "/", "/.../../b": "/b", "/..a": "/..a", "/a..": "/a..", "/.a": "/.a", "/a.": "/a.", "/a./b": "/a./b", "/.a/..": "/", "/a.b/../c": "/c", "/a/..b/c": "/a/..b/c",
		"/%2e": "/%2e", "/%2E%2e/a": "/%2E%2e/a", "/a/%2e%2e/b": "/a/%2e%2e/b", "/.%2e": "/.%2e",
		"/. ./a": "/.%20./a", "/a/ ../b": "/a/%20../b", "/a/.. /b": "/a/..%20/b", "/\x00/..": "/", "/\u00e9/../b": "/b", "/a\\..\\b": "/a\\..\\b", "/:/..": "/", "/a:b/../c": "/c", "/\xff/./b": "/%EF%BF%BD/b",
	} {
		mustParse(t, "http://h"+path, URL{"http", "h", 0, want, ""})
		mustParse(t, "https://h:9"+path+"?#/..", URL{"https", "h", 9, want, ""})
		mustParse(t, "http://h"+path+"?/..", URL{"http", "h", 0, want, "?/.."})
	}
}

// Print may have just api.MaxURL letters; what is parsed may have more or less.
func TestLength(t *testing.T) {
	for _, p := range [][2]string{ // text that grows, and one letter of it
		{"http://a/", "x"}, {"http://a/b?", "x"}, {"https://abcdefghijklmnopqrst:65535/", "x"}, {"http://a/", "/"}, {"http://a/?", "%"}, {"http://a/", "."},
	} {
		just := p[0] + strings.Repeat(p[1], api.MaxURL-len(p[0]))
		if strings.HasSuffix(just, "/..") || len(just) != 40 {
			t.Fatalf("%q", just)
		}
		mustPrint(t, just, just)
		mustPrint(t, " "+just+"# and more", just)
		mustPrint(t, just[:len(just)-1], just[:len(just)-1])
		mustNotParse(t, just+p[1])
		mustNotParse(t, just+p[1]+"#")
		mustNotParse(t, just+strings.Repeat(p[1], 1000))
	}

	const just = "http://a/0123456789012345678901234567890"
	mustPrint(t, just, just)
	mustPrint(t, "http://a:80"+just[8:], just)
	mustPrint(t, "http://a:00080/./../b/.."+just[8:]+"?", just)
	mustPrint(t, strings.Repeat(" ", 100)+just+strings.Repeat("\n", 100), just)
	mustNotParse(t, "http://a:8"+just[8:])
	mustNotParse(t, "https://a/"+just[9:])
	mustNotParse(t, just+"?x")
	mustNotParse(t, just+"/")

	// A slash for the path that is nothing counts, a blank counts three times.
	mustPrint(t, "http://a?"+strings.Repeat("x", 30), "http://a/?"+strings.Repeat("x", 30))
	mustNotParse(t, "http://a?"+strings.Repeat("x", 31))
	mustPrint(t, "http://a/b"+strings.Repeat(" ", 9)+"xyz", "http://a/b"+strings.Repeat("%20", 9)+"xyz")
	mustNotParse(t, "http://a/b"+strings.Repeat(" ", 10)+"x")
	mustPrint(t, "http://a/?"+strings.Repeat("\xff", 3)+"xyz", "http://a/?"+strings.Repeat("%EF%BF%BD", 3)+"xyz")
	mustNotParse(t, "http://a/?"+strings.Repeat("\xff", 3)+"wxyz")
}

func TestLong(t *testing.T) {
	const n = 1 << 20
	mustPrint(t, "http://a/"+strings.Repeat("b/../", n)+"c", "http://a/c")
	mustPrint(t, "http://a/"+strings.Repeat("b/", n)+strings.Repeat("../", n)+"c", "http://a/c")
	mustPrint(t, "http://a/"+strings.Repeat("/", n)+strings.Repeat("../", n)+"c", "http://a/c")
	mustPrint(t, "http://a/"+strings.Repeat("../", n)+strings.Repeat("./", n)+"..", "http://a/")
	mustPrint(t, "http://a/"+strings.Repeat("b", n)+"/..", "http://a/")
	mustPrint(t, "http://a/#"+strings.Repeat("b", n), "http://a/")
	mustNotParse(t, "http://a/"+strings.Repeat("b/", n))
	mustNotParse(t, "http://a/?"+strings.Repeat("b", n))
	mustNotParse(t, "http://"+strings.Repeat("a.", n)+"a")
	mustNotParse(t, "http://a:"+strings.Repeat("0", n))
	mustNotParse(t, strings.Repeat("http", n))
	mustNotParse(t, strings.Repeat("http://", n))
}

func TestPrintAndOrigin(t *testing.T) {
	for _, r := range []struct {
		u             URL
		origin, print string
	}{
		{URL{"http", "a", 0, "/", ""}, "http://a", "http://a/"},
		{URL{"https", "a.b", 8, "/c", "?d"}, "https://a.b:8", "https://a.b:8/c?d"},
		{URL{"http", "a", 65535, "/c/d/", ""}, "http://a:65535", "http://a:65535/c/d/"},
		{URL{"http", "localhost", 1, "/", "?"}, "http://localhost:1", "http://localhost:1/?"},
		// What Parse does not make is written out all the same.
		{URL{"http", "a", 80, "/", ""}, "http://a:80", "http://a:80/"},
		{URL{"https", "a", 443, "/", ""}, "https://a:443", "https://a:443/"},
		{URL{"HTTP", "A", 0, "/a/../b", "?#"}, "HTTP://A", "HTTP://A/a/../b?#"},
		{URL{"", "", -1, "x", "y"}, "://:-1", "://:-1xy"},
		{URL{"s", "h", 1 << 40, "", ""}, "s://h:1099511627776", "s://h:1099511627776"},
		{URL{}, "://", "://"},
	} {
		if got := Origin(r.u); got != r.origin {
			t.Errorf("Origin(%+v) = %q; want %q", r.u, got, r.origin)
		}
		if got := Print(r.u); got != r.print {
			t.Errorf("Print(%+v) = %q; want %q", r.u, got, r.print)
		}
	}
	for s, want := range map[string]string{
		"http://a/b?c#d": "http://a", "HTTPS://A.B:443": "https://a.b", "https://a:80/": "https://a:80", "http://a:0/": "http://a", "http://a?http://b": "http://a",
	} {
		if got := Origin(at(t, s)); got != want {
			t.Errorf("Origin of %q: %q; want %q", s, got, want)
		}
	}
}

func TestSame(t *testing.T) {
	origins := [][]string{ // those of a row are the same, those of two rows are not
		{"http://a", "http://a/x", "HTTP://A:80/y?z", "http://a:0/#a"},
		{"https://a", "https://a:443/x"},
		{"http://a:443/x", "http://a:00443/x"},
		{"https://a:80/x"},
		{"http://a:8/", "http://A:08/x?y"},
		{"http://a:88/"},
		{"http://a.b/", "http://A.B/c"},
		{"http://b.a/"},
		{"http://aa/"},
		{"http://localhost/"},
		{"https://localhost/"},
	}
	for i, row := range origins {
		for j, other := range origins {
			for _, a := range row {
				for _, b := range other {
					if got := Same(at(t, a), at(t, b)); got != (i == j) {
						t.Errorf("Same of %s and %s: %t", a, b, got)
					}
				}
			}
		}
	}
	if !Same(URL{}, URL{Path: "/a", Query: "?b"}) || Same(URL{}, URL{Port: 1}) || Same(URL{}, URL{Host: "a"}) || Same(URL{}, URL{Scheme: "a"}) {
		t.Error("Same of empty ones")
	}
	if Same(URL{Scheme: "http", Host: "a", Port: 80}, URL{Scheme: "http", Host: "a"}) {
		t.Error("Same of Origins that are not alike")
	}
}

func TestSecure(t *testing.T) {
	for s, want := range map[string]bool{
		"http://a/": false, "https://a/": true, "HTTPS://A:80/": true, "http://a:443/": false,
		"http://localhost": true, "http://LocalHost:8/x": true, "https://localhost/": true,
		"http://x.localhost/": false, "http://localhost.x/": false, "http://localhos/": false, "http://localhostt/": false, "http://a/localhost": false, "http://a/?localhost": false, "http://127.0.0.1/": false, "http://https/": false,
	} {
		if got := Secure(at(t, s)); got != want {
			t.Errorf("Secure of %s: %t", s, got)
		}
	}
	if Secure(URL{}) || Secure(URL{Scheme: "http", Path: "localhost"}) || !Secure(URL{Host: "localhost"}) || !Secure(URL{Scheme: "https"}) {
		t.Error("Secure of ones that Parse does not make")
	}
}

// mustJoin wants s from base to be printed as want, or no URL if want is nothing.
func mustJoin(t *testing.T, base URL, s, want string) {
	t.Helper()
	u, e := Join(base, s)
	if want == "" {
		if u != (URL{}) || e != api.ErrForm {
			t.Errorf("Join(%+v, %.60q) = %+v, %d; want nothing and ErrForm", base, s, u, e)
		}
		return
	}
	if again, _ := Parse(want); Print(u) != want || e != api.OK || u != again {
		t.Errorf("Join(%+v, %.60q) = %+v, %d; want %q", base, s, u, e, want)
	}
}

func TestJoin(t *testing.T) {
	base := at(t, "https://a.b:8/c/d?e")
	for s, want := range map[string]string{
		"//x":              "https://x/",
		"//X:443/y/./z?q#": "https://x/y/z?q",
		"//x:8/y":          "https://x:8/y",
		"//x:80":           "https://x:80/",
		"//x?y":            "https://x/?y",
		"//":               "", "///": "", "///y": "", "////x": "", "//:8": "", "//a..b": "", "//x:y": "", "//?": "", "//#": "", "// x": "",
		"/":                 "https://a.b:8/",
		"/y":                "https://a.b:8/y",
		"/y/../z?q#f":       "https://a.b:8/z?q",
		"/..":               "https://a.b:8/",
		"/./x":              "https://a.b:8/x",
		"/ /":               "https://a.b:8/%20/",
		"/y//z":             "https://a.b:8/y//z",
		"/.//y":             "https://a.b:8//y",
		"/?":                "https://a.b:8/",
		"/#":                "https://a.b:8/",
		"/http://x":         "https://a.b:8/http://x",
		"/:9":               "https://a.b:8/:9",
		" \t/y\n":           "https://a.b:8/y",
		"\x00//x ":          "https://x/",
		" HTTP://X:80 ":     "http://x/",
		"http://x/y?z#":     "http://x/y?z",
		"https://x:8/../y/": "https://x:8/y/",
		"":                  "", " ": "", "y": "", "y/z": "", "./y": "", "../y": "", "?q": "", "#f": "", ":8": "", "\\y": "", "http:y": "", "http:": "", "https:/y": "", "ftp://x/": "", "http://": "", "a.b:8/c": "", "\xff/y": "", "%2fy": "",
	} {
		mustJoin(t, base, s, want)
	}

	// The base's scheme, its host, and its port if it is not its own.
	mustJoin(t, at(t, "http://a/b"), "//x:443", "http://x:443/")
	mustJoin(t, at(t, "http://a/b"), "//x:80", "http://x/")
	mustJoin(t, at(t, "http://a:80/b?c"), "/d", "http://a/d")
	mustJoin(t, at(t, "https://a:80/b?c"), "/d", "https://a:80/d")
	mustJoin(t, at(t, "https://a:80/b?c"), "//d:80", "https://d:80/")
	mustJoin(t, at(t, "HTTPS://A:443"), "/d", "https://a/d")
}

// What is joined may be as long as a URL may.
func TestJoinLength(t *testing.T) {
	base := at(t, "https://a.b:8/")
	just := "/" + strings.Repeat("x", api.MaxURL-len(Print(base)))
	mustJoin(t, base, just, Origin(base)+just)
	mustJoin(t, base, just+"#y", Origin(base)+just)
	mustJoin(t, base, just+"x", "")
	just = "//y/" + strings.Repeat("x", api.MaxURL-len("https://y/"))
	mustJoin(t, base, just, "https:"+just)
	mustJoin(t, base, just+"x", "")
}

// A base that Parse does not make is used as it is printed.
func TestJoinToWrongBase(t *testing.T) {
	for _, base := range []URL{{}, {"ftp", "a", 0, "/", ""}, {"", "a", 0, "/", ""}, {"http:", "a", 0, "/", ""}} {
		mustJoin(t, base, "//x", "")
		mustJoin(t, base, "/x", "")
		mustJoin(t, base, "http://x", "http://x/")
	}
	mustJoin(t, URL{Scheme: "HTTP", Host: "A", Port: 80}, "/x", "http://a/x")
	mustJoin(t, URL{Scheme: "http", Host: "a", Port: 65536}, "/x", "")
	mustJoin(t, URL{Scheme: "http", Host: "a", Port: -1}, "/x", "")
	mustJoin(t, URL{Scheme: "http"}, "/x", "")
	mustJoin(t, URL{Scheme: "http"}, "//x", "http://x/")
	mustJoin(t, URL{Scheme: "http", Host: "a."}, "/x", "")
}

// form is a URL's parts by another way; the classes are written out, as to
// ignore the case would let letters of other alphabets in.
var form = regexp.MustCompile(`^([hH][tT][tT][pP][sS]?)://([A-Za-z0-9.-]{1,20})(?::([0-9]{1,5}))?(/[^?#]*)?(?:\?([^#]*))?(?:#(?s:.*))?$`)

// parsed is Parse by another way.
func parsed(s string) (URL, bool) {
	m := form.FindStringSubmatch(strings.TrimFunc(s, func(r rune) bool { return r <= 32 }))
	if m == nil {
		return URL{}, false
	}
	u := URL{Scheme: strings.ToLower(m[1]), Host: strings.ToLower(m[2]), Path: pct.Encode(short(m[4]))}
	u.Port, _ = strconv.Atoi(m[3])
	if u.Port > 65535 || strings.Contains("."+u.Host+".", "..") {
		return URL{}, false
	}
	if u.Scheme == "http" && u.Port == 80 || u.Scheme == "https" && u.Port == 443 {
		u.Port = 0
	}
	if m[5] != "" {
		u.Query = "?" + pct.Encode(m[5])
	}
	return u, len(Print(u)) <= 40
}

// short is a path without its points, which it takes out one by one.
func short(path string) string {
	parts := strings.Split(strings.TrimPrefix(path, "/"), "/")
	for {
		i := slices.IndexFunc(parts, func(p string) bool { return p == "." || p == ".." })
		if i < 0 {
			return "/" + strings.Join(parts, "/")
		}
		if i == len(parts)-1 {
			parts = append(parts, "")
		}
		from := i
		if parts[i] == ".." {
			from = max(0, i-1)
		}
		parts = slices.Delete(parts, from, i+1)
	}
}

// checkParse holds Parse against the other way.
func checkParse(t *testing.T, s string) {
	t.Helper()
	if u, ok := parsed(s); ok {
		mustParse(t, s, u)
	} else {
		mustNotParse(t, s)
	}
}

// checkJoin holds Join against Parse of what the chapter says.
func checkJoin(t *testing.T, base URL, s string) {
	t.Helper()
	text := strings.TrimFunc(s, func(r rune) bool { return r <= 32 })
	if len(text) > 1 && text[:2] == "//" {
		text = base.Scheme + ":" + text
	} else if len(text) > 0 && text[0] == '/' {
		text = Origin(base) + text
	}
	if u, ok := parsed(text); ok {
		mustJoin(t, base, s, Print(u))
	} else {
		mustJoin(t, base, s, "")
	}
}

func TestAllShortTexts(t *testing.T) {
	pieces := []string{"a", "Z", "-", ".", "/", "?", "#", ":", "8", "80", " ", "..", "\xff", "://"}
	base := URL{"https", "b", 8, "/c", "?d"}
	var each func(s string, left int)
	each = func(s string, left int) {
		checkParse(t, "http://"+s)
		checkParse(t, "https://a"+s)
		checkParse(t, s)
		checkJoin(t, base, s)
		checkJoin(t, base, "/"+s)
		if left == 0 {
			return
		}
		for _, p := range pieces {
			each(s+p, left-1)
		}
	}
	each("", 4)
}

func TestManyTexts(t *testing.T) {
	chance := rand.New(rand.NewSource(7))
	pieces := []string{"http", "https", "://", "http://", "HTTPS://", "//", "/", "/", "/./", "/../", "/..", "/.", "..", ".", "a", "b-1", "Host", ":", ":80", ":443", ":0", ":65535", ":65536", ":00007", "?", "#", "%41", " ", "\t", "\u00e4", "\xff", "_", "@"}
	for range 50000 {
		s := ""
		if chance.Intn(4) > 0 {
			s = "http://a"
		}
		for range chance.Intn(10) {
			if chance.Intn(8) == 0 {
				s += string([]byte{byte(chance.Intn(256))})
			} else {
				s += pieces[chance.Intn(len(pieces))]
			}
		}
		checkParse(t, s)
		checkJoin(t, URL{"https", "b.c", 9, "/", ""}, s)
	}
}

// What is answered shares no memory with what was handed in, and the same
// argument has the same answer again.
func TestMemory(t *testing.T) {
	const s = "http://abc:8/def/ghi?jkl"
	given := strings.Clone(s)
	from := uintptr(unsafe.Pointer(unsafe.StringData(given)))
	u, _ := Parse(given)
	again, _ := Parse(given)
	joined, _ := Join(URL{}, given)
	if u != again || u != joined || Print(u) != s {
		t.Errorf("%+v, then %+v, then %+v", u, again, joined)
	}
	for _, u := range []URL{u, joined} {
		for _, text := range []string{u.Scheme, u.Host, u.Path, u.Query} {
			at := uintptr(unsafe.Pointer(unsafe.StringData(text)))
			if at >= from && at < from+uintptr(len(given)) {
				t.Errorf("%q lies in the argument's memory", text)
			}
		}
	}
}

func FuzzAll(f *testing.F) {
	for _, s := range []string{"", "http://a", "HTTPS://A.b:443/c/../d?e#f", "http://a:65536/", "//a/./b", "/a/..", "http://a..b/", "http://a/ \xff?\u00e4"} {
		f.Add(s)
	}
	f.Fuzz(func(t *testing.T, s string) {
		checkParse(t, s)
		checkJoin(t, URL{"https", "b.c", 9, "/", ""}, s)
	})
}
