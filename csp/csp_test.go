package csp

import (
	"math/rand"
	"regexp"
	"slices"
	"strconv"
	"strings"
	"testing"

	"postilion/api"
	"postilion/url"
)

var zero url.URL

func at(t testing.TB, s string) url.URL {
	t.Helper()
	u, e := url.Parse(s)
	if e != api.OK {
		t.Fatalf("%q is no URL", s)
	}
	return u
}

func one(c int) string { return string([]byte{byte(c)}) }

func mustCheck(t *testing.T, list string) {
	t.Helper()
	if e := Check(list); e != api.OK {
		t.Errorf("Check(%.90q) = %d; want OK", list, e)
	}
}

func mustNotCheck(t *testing.T, list string) {
	t.Helper()
	if e := Check(list); e != api.ErrArg {
		t.Errorf("Check(%.90q) = %d; want ErrArg", list, e)
	}
}

func matches(t *testing.T, source string, page, u url.URL, want bool) {
	t.Helper()
	if got := Match(source, page, u); got != want {
		t.Errorf("Match(%.90q, %.90q, %.90q) = %t; want %t", source, url.Print(page), url.Print(u), got, want)
	}
}

func mustMatch(t *testing.T, source, page, u string) {
	t.Helper()
	matches(t, source, at(t, page), at(t, u), true)
}

func mustNotMatch(t *testing.T, source, page, u string) {
	t.Helper()
	matches(t, source, at(t, page), at(t, u), false)
}

// allows holds as well that a list with more blanks says the same.
func allows(t *testing.T, list, page, u string, want bool) {
	t.Helper()
	wide := "  " + strings.ReplaceAll(list, " ", "   ") + " "
	for _, l := range []string{list, wide} {
		if got := Allows(l, at(t, page), at(t, u)); got != want {
			t.Errorf("Allows(%.90q, %q, %q) = %t; want %t", l, page, u, got, want)
		}
	}
}

func mustAllow(t *testing.T, list, page, u string) {
	t.Helper()
	allows(t, list, page, u, true)
}

func mustNotAllow(t *testing.T, list, page, u string) {
	t.Helper()
	allows(t, list, page, u, false)
}

// notSource holds that s, which has no blanks, is no source, in whatever call.
func notSource(t *testing.T, s string) {
	t.Helper()
	mustNotCheck(t, s)
	mustNotCheck(t, "* "+s)
	mustNotCheck(t, s+" *")
	for _, u := range anyURLs(t) {
		matches(t, s, u, u, false)
		if Allows(s, u, u) {
			t.Errorf("Allows(%.90q, %q) = true", s, url.Print(u))
		}
	}
}

// isPort holds that s is a port, and of which URLs: a port of that number is n.
func isPort(t *testing.T, s string, n int) {
	t.Helper()
	mustCheck(t, "a:"+s)
	mustCheck(t, "https://*.a:"+s)
	for _, scheme := range []string{"http", "https"} {
		for _, port := range []int{1, 8, 79, 80, 81, 442, 443, 444, 8080, 65534, 65535} {
			u := scheme + "://a:" + strconv.Itoa(port) + "/"
			matches(t, "a:"+s, at(t, u), at(t, u), port == n)
		}
	}
}

func anyURLs(t testing.TB) []url.URL {
	t.Helper()
	list := []url.URL{zero}
	for _, s := range []string{
		"http://a/", "https://a/", "http://b/", "https://b.a/x?y", "http://b.a:8/", "https://a:80/", "http://a:443/",
		"http://self/", "http://none/", "http://http/", "https://https/", "https://xa/", "http://a.a/", "http://a:65535/",
	} {
		list = append(list, at(t, s))
	}
	return list
}

func TestCheck(t *testing.T) {
	for _, s := range []string{
		"'none'", "'NONE'", "'nOnE'", "'self'", "'SELF'", "'Self'", "*", "http:", "https:", "HTTP:", "HttpS:",
		"a", "A", "a.b", "A.b-9", "0", "-", "localhost", "self", "none", "NONE", "http", "https",
		"*.a", "*.A.b", "http://a", "https://a", "HTTP://A", "hTTps://a.B", "http://*.a", "https://*.a.b",
		"a:1", "a:80", "*.a:443", "http://a:8", "https://*.a:65535", "a:*", "*.a:*", "http://a:*", "https://*.a:*",
		"http:80", "https:443", "http:*", "HTTP:80", "none:8", "*.http:1", "http://http:80", "https://https",
	} {
		mustCheck(t, s)
		mustCheck(t, " "+s+"   ")
		alone := strings.EqualFold(s, none)
		if alone {
			mustNotCheck(t, s+" "+s)
			mustNotCheck(t, "a "+s)
			continue
		}
		mustCheck(t, s+" "+s)
		mustCheck(t, "  'self'  "+s+" *")
	}
}

func TestCheckLists(t *testing.T) {
	for _, s := range []string{
		"", " ", "  ", strings.Repeat(" ", api.MaxCSP), "a b", " a", "a ", " a ", "  a   b  ", "a a", "* *",
		"'self' 'self'", "http: https:", "'self' http: *.a:* https://b:8", "connect-src a",
	} {
		mustCheck(t, s)
	}
	for _, s := range []string{
		"a\tb", "a\nb", "a\r\nb", "\ta", "a\t", "a\x00b", "a,b", "a, b", "a;b", "a; b", "a\u00a0b", "a\u2003b", "\u3000", "\t", "\n",
		"a b/ c", "a 'none", "* ftp:", "a a:", "a :8",
	} {
		mustNotCheck(t, s)
	}
}

func TestNone(t *testing.T) {
	for _, s := range []string{"'none'", "'NONE'", "'NoNe'"} {
		mustCheck(t, s)
		mustCheck(t, "   "+s+"  ")
		for _, other := range []string{"'none'", "'NONE'", "'self'", "*", "http:", "https:", "a", "*.a:*", "https://a:8"} {
			mustNotCheck(t, s+" "+other)
			mustNotCheck(t, other+"  "+s)
			mustNotCheck(t, other+" "+s+" "+other)
		}
		for _, u := range anyURLs(t) {
			matches(t, s, u, u, false)
			matches(t, s, zero, u, false)
		}
		mustNotAllow(t, s, "http://a/", "http://a/")
		mustNotAllow(t, s, "http://none/", "http://none/")
	}
}

// A list as long as may be is one, whatever it holds; one more byte is too many
// even if it is a blank.
func TestLengths(t *testing.T) {
	for _, s := range []string{
		strings.Repeat("a ", 20), strings.Repeat("a ", 19) + " a", "*" + strings.Repeat(" ", 39), strings.Repeat(" ", 40),
		strings.Repeat(" ", 34) + "'none'", "https://*.abcdefghijklmnopqrst:65535 a b", "http://abcdefghijklmnopqrst:65535 'self'",
	} {
		if len(s) != api.MaxCSP {
			t.Fatalf("%q is of %d bytes", s, len(s))
		}
		mustCheck(t, s)
		mustNotCheck(t, s+" ")
		mustNotCheck(t, " "+s)
		mustNotCheck(t, s+" a")
		mustNotCheck(t, s+s)
	}
	mustCheck(t, "abcdefghijklmnopqrst abcdefghijklmnopqrs")
	mustNotCheck(t, "abcdefghijklmnopqrst abcdefghijklmnopqrst")
	// Match and Allows ask nothing of the length of a list.
	far := strings.Repeat(" ", 100)
	mustAllow(t, far, "http://a/", "http://b/")
	mustAllow(t, "a"+far+"b", "http://a/", "http://b/")
	mustNotAllow(t, "a"+far+"b", "http://a/", "http://c/")
	mustNotAllow(t, strings.Repeat("a ", 1000)+"b", "http://a/", "http://c/")
	mustAllow(t, strings.Repeat("a ", 1000)+"b", "http://a/", "http://b/")
}

func TestSelf(t *testing.T) {
	for _, s := range []string{"'self'", "'SELF'", "'sELf'"} {
		mustMatch(t, s, "http://a/", "http://a/")
		mustMatch(t, s, "http://a/x?y", "http://a/z")
		mustMatch(t, s, "http://a:80/", "http://A/")
		mustMatch(t, s, "https://a:443/", "https://a/")
		mustMatch(t, s, "http://a:8/", "http://a:8/")
		mustMatch(t, s, "https://a.b:80/", "https://a.b:80/")
		mustNotMatch(t, s, "http://a/", "https://a/")
		mustNotMatch(t, s, "https://a/", "http://a/")
		mustNotMatch(t, s, "http://a:8/", "https://a:8/")
		mustNotMatch(t, s, "http://a:8/", "http://a/")
		mustNotMatch(t, s, "http://a/", "http://a:8/")
		mustNotMatch(t, s, "http://a:8/", "http://a:9/")
		mustNotMatch(t, s, "http://a:443/", "https://a/")
		mustNotMatch(t, s, "http://a/", "http://b/")
		mustNotMatch(t, s, "http://a/", "http://b.a/")
		mustNotMatch(t, s, "http://b.a/", "http://a/")
		mustNotMatch(t, s, "http://a/", "http://self/")
		matches(t, s, zero, zero, true)
		matches(t, s, zero, at(t, "http://a/"), false)
		matches(t, s, at(t, "http://a/"), zero, false)
	}
	// Without quotes it is a host.
	mustMatch(t, "self", "http://a/", "http://self/")
	mustNotMatch(t, "self", "http://a/", "http://a/")
	mustMatch(t, "none", "http://a/", "http://none/")
}

func TestAll(t *testing.T) {
	for _, page := range anyURLs(t) {
		for _, u := range anyURLs(t) {
			matches(t, "*", page, u, true)
			if !Allows("*", page, u) || !Allows(" b.c * ", page, u) {
				t.Errorf("a list with * doesn't allow %q", url.Print(u))
			}
		}
	}
}

func TestSchemes(t *testing.T) {
	for _, page := range []string{"http://a/", "https://a/", "http://b:8/"} {
		for _, s := range []string{"http:", "HTTP:", "hTtP:"} {
			mustMatch(t, s, page, "http://b/")
			mustMatch(t, s, page, "http://b:443/x")
			mustMatch(t, s, page, "https://b/")
			mustMatch(t, s, page, "https://b:80/?y")
			matches(t, s, at(t, page), zero, false)
		}
		for _, s := range []string{"https:", "HTTPS:", "HttpS:"} {
			mustMatch(t, s, page, "https://b/")
			mustMatch(t, s, page, "https://b:80/")
			mustNotMatch(t, s, page, "http://b/")
			mustNotMatch(t, s, page, "http://b:443/")
			mustNotMatch(t, s, page, "http://https/")
			matches(t, s, at(t, page), zero, false)
		}
	}
	// With a port behind it a scheme's name is a host's.
	mustMatch(t, "http:80", "http://a/", "http://http/")
	mustMatch(t, "https:*", "http://a/", "http://https:9/")
	mustNotMatch(t, "http:80", "http://a/", "http://a/")
	mustNotMatch(t, "http:*", "http://a/", "http://a/")
	mustMatch(t, "http", "http://a/", "http://http/")
	mustNotMatch(t, "http", "http://a/", "http://a/")
	for _, s := range []string{"ftp:", "ws:", "wss:", "data:", "blob:", "file:", "htt:", "httpss:", "h:", "a:", ":", "http::", "http: ", " http:", "'http:'"} {
		for _, u := range anyURLs(t) {
			matches(t, s, u, u, false)
		}
	}
}

func TestHosts(t *testing.T) {
	for _, s := range []string{"a.b", "A.B", "a.B"} {
		mustMatch(t, s, "http://x/", "http://a.b/")
		mustMatch(t, s, "http://x/", "http://A.b/y?z")
		mustMatch(t, s, "http://a.b/", "http://a.b/")
		mustNotMatch(t, s, "http://a.b/", "http://b/")
		mustNotMatch(t, s, "http://x/", "http://xa.b/")
		mustNotMatch(t, s, "http://x/", "http://x.a.b/")
		mustNotMatch(t, s, "http://x/", "http://a.bx/")
		mustNotMatch(t, s, "http://x/", "http://a.b.x/")
		mustNotMatch(t, s, "http://x/", "http://a-b/")
		mustNotMatch(t, s, "http://x/", "http://a/")
		mustNotMatch(t, s, "http://x/", "http://ab/")
		mustNotMatch(t, s, "http://x/", "http://x/")
		matches(t, s, at(t, "http://a.b/"), zero, false)
		matches(t, s, zero, zero, false)
		matches(t, s, zero, at(t, "http://a.b/"), false)
		matches(t, s, zero, at(t, "https://a.b/"), true)
	}
}

func TestUnder(t *testing.T) {
	for _, s := range []string{"*.a.b", "*.A.B", "*.A.b"} {
		mustMatch(t, s, "http://x/", "http://c.a.b/")
		mustMatch(t, s, "http://x/", "http://d.c.a.b/")
		mustMatch(t, s, "http://x/", "http://-.A.B/y")
		mustMatch(t, s, "http://x/", "http://a.b.a.b/")
		mustNotMatch(t, s, "http://x/", "http://a.b/")
		mustNotMatch(t, s, "http://a.b/", "http://a.b/")
		mustNotMatch(t, s, "http://x/", "http://ca.b/")
		mustNotMatch(t, s, "http://x/", "http://c-a.b/")
		mustNotMatch(t, s, "http://x/", "http://b/")
		mustNotMatch(t, s, "http://x/", "http://c.b/")
		mustNotMatch(t, s, "http://x/", "http://c.a.b.d/")
		mustNotMatch(t, s, "http://x/", "http://c.a.bd/")
		mustNotMatch(t, s, "http://x/", "http://a.b.c/")
		matches(t, s, zero, zero, false)
	}
	mustMatch(t, "*.b", "http://x/", "http://a.b/")
	mustMatch(t, "*.b", "http://x/", "http://b.b/")
	mustMatch(t, "*.b", "http://x/", "http://d.c.b/")
	mustNotMatch(t, "*.b", "http://x/", "http://b/")
	mustNotMatch(t, "*.b", "http://x/", "http://ab/")
	mustNotMatch(t, "*.b", "http://x/", "http://b.a/")
	// A host of just a point and the end isn't longer: no URL that Parse made.
	matches(t, "*.b", zero, url.URL{Scheme: "https", Host: ".b"}, false)
	matches(t, "*.b", zero, url.URL{Scheme: "https", Host: "..b"}, true)
	// Of the longest hosts.
	mustMatch(t, "*.cdefghijklmnopqrst", "http://x/", "http://a.cdefghijklmnopqrst/")
	mustCheck(t, "*.abcdefghijklmnopqrst")
	mustNotCheck(t, "*.abcdefghijklmnopqrstu")
	mustNotMatch(t, "*.abcdefghijklmnopqrst", "http://x/", "http://abcdefghijklmnopqrst/")
}

// Every scheme of a source, with every scheme of the page and of the URL.
func TestHostSchemes(t *testing.T) {
	for _, row := range []struct {
		ahead, page, u string
		want           bool
	}{
		{"", "http", "http", true},
		{"", "http", "https", true},
		{"", "https", "http", false},
		{"", "https", "https", true},
		{"http://", "http", "http", true},
		{"http://", "http", "https", true},
		{"http://", "https", "http", true},
		{"http://", "https", "https", true},
		{"https://", "http", "http", false},
		{"https://", "http", "https", true},
		{"https://", "https", "http", false},
		{"https://", "https", "https", true},
	} {
		for _, ahead := range []string{row.ahead, strings.ToUpper(row.ahead)} {
			for _, behind := range []string{"", ":*"} {
				matches(t, ahead+"b.c"+behind, at(t, row.page+"://a/"), at(t, row.u+"://b.c/"), row.want)
				matches(t, ahead+"*.c"+behind, at(t, row.page+"://a/"), at(t, row.u+"://b.c/"), row.want)
				matches(t, ahead+"a"+behind, at(t, row.page+"://a/"), at(t, row.u+"://a/"), row.want)
				matches(t, ahead+"x"+behind, at(t, row.page+"://a/"), at(t, row.u+"://b.c/"), false)
			}
			matches(t, ahead+"b:8", at(t, row.page+"://a/"), at(t, row.u+"://b:8/"), row.want)
			matches(t, ahead+"*.b:8", at(t, row.page+"://a/"), at(t, row.u+"://a.b:8/"), row.want)
			matches(t, ahead+"b:7", at(t, row.page+"://a/"), at(t, row.u+"://b:8/"), false)
		}
	}
	mustNotMatch(t, "http://b", "http://a/", "http://http/")
}

func TestPorts(t *testing.T) {
	for _, s := range []string{"b:8", "*.b:8", "http://b:8", "http://*.b:8", "b:08", "b:00008"} {
		u := "http://b"
		if strings.Contains(s, "*") {
			u = "http://a.b"
		}
		mustMatch(t, s, "http://a/", u+":8/")
		mustNotMatch(t, s, "http://a/", u+":9/")
		mustNotMatch(t, s, "http://a/", u+":80/")
		mustNotMatch(t, s, "http://a/", u+":88/")
		mustNotMatch(t, s, "http://a:8/", u+"/")
		mustNotMatch(t, s, "http://a/", "http://c:8/")
	}
	for _, row := range []struct {
		source, u string
		want      bool
	}{
		{"b:80", "http://b/", true},
		{"b:80", "http://b:80/", true},
		{"b:80", "https://b/", false},
		{"b:80", "https://b:80/", true},
		{"b:443", "http://b/", false},
		{"b:443", "http://b:443/", true},
		{"b:443", "https://b/", true},
		{"b:443", "https://b:443/", true},
		{"http://b:80", "https://b/", false},
		{"http://b:443", "https://b/", true},
		{"https://b:443", "http://b:443/", false},
		{"b:080", "http://b/", true},
		{"b:00080", "http://b/", true},
		{"b:00443", "https://b/", true},
		{"b:0", "http://b/", false},
		{"b:0", "https://b/", false},
		{"b:00000", "http://b/", false},
		{"b:65535", "http://b:65535/", true},
		{"b:65535", "http://b/", false},
		{"b", "http://b/", true},
		{"b", "https://b/", true},
		{"b", "http://b:80/", true},
		{"b", "https://b:443/", true},
		{"b", "http://b:443/", false},
		{"b", "https://b:80/", false},
		{"b", "http://b:8/", false},
		{"b", "http://b:1/", false},
		{"http://b", "http://b:8/", false},
		{"*.b", "http://a.b:8/", false},
		{"*.b", "http://a.b/", true},
		{"b:*", "http://b/", true},
		{"b:*", "https://b/", true},
		{"b:*", "http://b:1/", true},
		{"b:*", "https://b:80/", true},
		{"b:*", "http://b:443/", true},
		{"b:*", "http://b:65535/", true},
		{"b:*", "http://c/", false},
		{"b:*", "http://a.b:8/", false},
		{"https://b:*", "http://b:443/", false},
		{"http://*.b:*", "https://a.b:9/", true},
		{"http://*.b:*", "https://b:9/", false},
	} {
		matches(t, row.source, at(t, "http://a/"), at(t, row.u), row.want)
	}
	// A port that is written out in a URL made by hand is none.
	matches(t, "b", at(t, "http://a/"), url.URL{Scheme: "http", Host: "b", Port: 80}, false)
	matches(t, "b:80", at(t, "http://a/"), url.URL{Scheme: "http", Host: "b", Port: 80}, true)
	matches(t, "b:*", at(t, "http://a/"), url.URL{Scheme: "http", Host: "b", Port: -1}, true)
	matches(t, "b", at(t, "http://a/"), url.URL{Scheme: "http", Host: "b", Port: -1}, false)
	for _, p := range []string{"0", "1", "65535"} {
		matches(t, "b:"+p, at(t, "http://a/"), url.URL{Scheme: "http", Host: "b", Port: -1}, false)
		matches(t, "b:"+p, at(t, "http://a/"), url.URL{Scheme: "http", Host: "b", Port: -2}, false)
	}
}

func TestPortForms(t *testing.T) {
	for n := range 65536 {
		s := strconv.Itoa(n)
		if e := Check("a:" + s); e != api.OK {
			t.Fatalf("Check(a:%s) = %d", s, e)
		}
		if n > 0 && !Match("a:"+s, at(t, "http://b/"), at(t, "http://a:"+s+"/")) {
			t.Fatalf("a:%s doesn't match its port", s)
		}
	}
	for _, n := range []int{0, 1, 8, 79, 80, 81, 442, 443, 444, 8080, 65534, 65535} {
		s := strconv.Itoa(n)
		for len(s) <= 5 {
			isPort(t, s, n)
			s = "0" + s
		}
		notSource(t, "a:"+s)
		notSource(t, "a:0"+s)
	}
	for n := 65536; n < 100100; n++ {
		if e := Check("a:" + strconv.Itoa(n)); e != api.ErrArg {
			t.Fatalf("Check(a:%d) = %d", n, e)
		}
	}
	for _, p := range []string{
		"", "x", "8x", "x8", "+8", "-8", "-0", "8.", ".8", "8.0", "8_0", "0x8", "0b1", "1e1", "'8'", "8'", ":", ":8", "8:", "8:8", "**", "*8", "8*", "*:",
		"65536", "65545", "65616", "99999", "100000", "000000", "000080", "131152", "4294967376", "18446744073709551696", "99999999999999999999999",
		"8/", "*/", "/", "8?", "8#", "8?x", "8#x", "8/x", "\uff18", "\u0668", "8\x00", "8\t", "8\n", "\t8", "8\x7f", "8\x80", "8\xff", "8@", "@8", "8,",
	} {
		for _, ahead := range []string{"a:", "*.a:", "http://a:", "https://*.b.a:"} {
			notSource(t, ahead+p)
		}
	}
	for c := range 256 {
		if p := one(c); p == " " {
			mustNotCheck(t, "a:"+p)
		} else if c >= '0' && c <= '9' || c == '*' {
			mustCheck(t, "a:"+p)
		} else {
			notSource(t, "a:"+p)
			notSource(t, "a:"+p+"8")
			notSource(t, "a:8"+p)
			notSource(t, "a:8"+p+"8")
		}
	}
}

// isHostByte: a to z, A to Z, 0 to 9, -.
func isHostByte(c int) bool {
	return c >= 'a' && c <= 'z' || c >= 'A' && c <= 'Z' || c >= '0' && c <= '9' || c == '-'
}

// Every byte at every place of hosts of every length.
func TestHostForms(t *testing.T) {
	for n := range 22 {
		for c := range 256 {
			for k := range n {
				s := strings.Repeat("m", k) + one(c) + strings.Repeat("m", n-k-1)
				inner := k > 0 && k < n-1
				ok := n <= 20 && (isHostByte(c) || c == '.' && inner)
				switch {
				case ok:
					mustCheck(t, s)
					mustCheck(t, "*."+s)
					mustCheck(t, "https://*."+s+":65535")
					mustMatch(t, s, "http://a/", "http://"+s+"/")
				case c == '*' && n == 1:
					mustCheck(t, s)
				case c == ' ': // a list of shorter ones
					mustCheck(t, s)
				default:
					mustNotCheck(t, s)
				}
				if !ok {
					mustNotMatch(t, "http://"+s, "http://a/", "http://mm/")
				}
			}
		}
	}
	for _, s := range []string{"", ".", "..", ".a", "a.", "a..b", "a.b.", ".a.b", "a...b", "a_b", "a%41", "%61", "[a]", "[::1]", "\u00e4", "\uff41", "\u212a", "\u017f", "a\x80", "abcdefghijklmnopqrstu", "a.b.c.d.e.f.g.h.i.j.k"} {
		for _, ahead := range []string{"", "*.", "http://", "https://", "http://*.", "https://*."} {
			for _, behind := range []string{"", ":8", ":*"} {
				if ahead+s+behind != "" {
					notSource(t, ahead+s+behind)
				}
			}
		}
	}
}

// Each pair of bytes as a whole source, and each byte ahead of, within and
// behind what is one.
func TestBytes(t *testing.T) {
	for c := range 256 {
		for d := range 256 {
			s := one(c) + one(d)
			if c == ' ' || d == ' ' {
				continue
			}
			if isHostByte(c) && isHostByte(d) {
				mustCheck(t, s)
			} else {
				mustNotCheck(t, s)
			}
		}
		for _, s := range []string{"'none'", "'self'", "*", "http:", "https:", "a.b", "*.a", "http://a", "https://*.a:8", "a:*"} {
			if c == ' ' {
				continue
			}
			for k := range len(s) + 1 {
				oracle(t, s[:k]+one(c)+s[k:])
				if k < len(s) {
					oracle(t, s[:k]+one(c)+s[k+1:])
				}
			}
		}
	}
}

func TestNoSources(t *testing.T) {
	for _, s := range []string{
		"'self", "self'", "'none", "none'", "'", "''", "'a'", "'*'", "\"self\"", "`self'", "''self''", "'self''", "'se", "lf'", "'self'/", "'self':8", "*.'self'", "http://'self'", "'unsafe-inline'", "\u2018self\u2019", "'\u017felf'",
		"ftp:", "ftp://a", "ws://a", "wss://a:8", "file://a", "HTTPX://a", "htt://a", "://a", "//a", "/a", ":", "::", ":8", ":*", "a://b", "*://a", "http//a", "http:a", "http:/a", "http:///a", "http://http://a", "https://https://a", "http:////",
		"http://", "https://", "HTTP://", "http:/", "https:/", "http://:8", "http://:*", "http://*", "https://*", "http://*:8", "*:8", "*:*", "*:",
		"*.", "*.*", "*.*.a", "*.*.", "**", "**.a", "*a", "a*", "a.*", "a.*.b", "*.a.*", "*.a*", "*.*a", "*..a", ".*.a", "*-a", "*/a", "http://*.", "http://*.*.a", "*.http://a", "*.https://a:8", "http://*a", "http://a.*", "*.:8", "*./",
		"a:", "*.a:", "http://a:", "https://*.a:", "a:x", "a:8x", "a:8:8", "a:*:*", "a:*8",
		"a/", "a/b", "a:8/", "a:*/", "http://a/", "http://a/b", "https://a:8/b", "*.a/", "http:/a/", "*/", "http:/", "'self'/", "a//", "a/.", "a/..",
		"a?", "a?b", "a:8?b", "http://a?b", "a#", "a#b", "http://a#b", "a/?b", "*?b", "a:*?",
		"u@a", "u:p@a", "http://u@a", "http://u:p@a:8", "a@", "@a", "a@b:8", "*@a", "u@*.a",
		"a\x7f", "\x7fa", "a\x80", "\xffa", "a\u00e9", "\u00e9", "http:\u00a0", "https:\x80", "'self'\x80", "*\x80", "*.\x80", "http://\xff", "a:\xff", "\u212a", "\uff41.b", "\u0130", "\ufeffa",
		"a\tb", "\ta", "a\t", "\t*", "*\t", "*\n", "\n'self'", "'self'\r", "http:\t", "\thttp:", "http://\ta", "http://a\t", "a\x00", "\x00", "\x00a",
		"a,b", "a;", "a;b", "connect_src", "a\\", "a\\b", "a|b", "{a}", "<a>", "a+b", "a=b", "a!", "$a", "~", "^", "&", "(a)",
	} {
		notSource(t, s)
	}
	// Bytes above 126 have no small letters.
	mustNotMatch(t, "\u212a", "http://a/", "http://k/")
	mustNotMatch(t, "http://*.\u212a", "http://a/", "http://a.k/")
	mustNotAllow(t, "a \u212a:*", "http://a/", "http://k/")
	for _, u := range anyURLs(t) {
		for _, s := range []string{"", " ", "  ", " a", "a ", "a b", "* ", " *", "* *", "'self' ", " 'self'", "'se lf'", "'self' 'self'", "http: ", " http:", "http: https:", "ht tp:", "http: //a", "http:// a", "http://a ", "*. a", "a :8", "a: 8", "a:8 ", "a:* ", " 'none'", "'none' "} {
			matches(t, s, u, u, false)
		}
	}
	matches(t, "", zero, zero, false)
}

func TestAllows(t *testing.T) {
	for _, u := range anyURLs(t) {
		for _, list := range []string{"", " ", "     ", strings.Repeat(" ", 41)} {
			if !Allows(list, zero, u) || !Allows(list, u, zero) {
				t.Errorf("Allows(%q, %q) = false", list, url.Print(u))
			}
		}
	}
	mustAllow(t, "b 'self'", "http://a/", "http://a/")
	mustAllow(t, "'self' b", "http://a/", "http://a/")
	mustAllow(t, "b 'self'", "http://a/", "http://b/")
	mustNotAllow(t, "b 'self'", "http://a/", "http://c/")
	mustAllow(t, "b c d", "http://a/", "http://b/")
	mustAllow(t, "b c d", "http://a/", "http://c/")
	mustAllow(t, "b c d", "http://a/", "http://d/")
	mustNotAllow(t, "b c d", "http://a/", "http://a/")
	mustNotAllow(t, "b c d", "http://a/", "http://bc/")
	mustAllow(t, "https://b http:", "https://a/", "http://b/")
	mustNotAllow(t, "https: b", "https://a/", "http://b/")
	mustAllow(t, "https: b", "http://a/", "http://b/")
	mustAllow(t, "*.b:8 B", "http://a/", "http://c.b:8/")
	mustAllow(t, "*.b:8 B", "http://a/", "http://b/")
	mustNotAllow(t, "*.b:8 B", "http://a/", "http://b:8/")
	mustNotAllow(t, "'none'", "http://a/", "http://a/")
	// Lists that Check refuses are taken source by source.
	mustNotAllow(t, "a/ ftp: 'self", "http://a/", "http://a/")
	mustAllow(t, "a/ a", "http://a/", "http://a/")
	mustAllow(t, "'none' 'self'", "http://a/", "http://a/")
	mustNotAllow(t, "'none' 'none'", "http://a/", "http://a/")
	mustAllow(t, "http: //a", "http://a/", "http://b/")
	mustNotAllow(t, "'se lf'", "http://a/", "http://a/")
	for _, list := range []string{"\t", "\n", "\x00", "\u00a0", "\t*", "*\t'self'", "b\ta", "a,*"} {
		mustNotAllow(t, list, "http://a/", "http://a/")
	}
}

// What follows says the same a second time, by patterns.

const hostForm = `[a-z0-9-]+(?:\.[a-z0-9-]+)*`

var (
	sourceForm = regexp.MustCompile(`^(?:(https?)://)?(\*\.)?(` + hostForm + `)(?::([0-9]{1,5}|\*))?$`)
	blanks     = regexp.MustCompile(` +`)
)

type told struct {
	source bool
	match  bool
}

func tell(s string, page, u url.URL) told {
	switch small(s) {
	case "'none'":
		return told{true, false}
	case "'self'":
		return told{true, page.Scheme == u.Scheme && page.Host == u.Host && page.Port == u.Port}
	case "*":
		return told{true, true}
	case "http:":
		return told{true, u.Scheme == "http" || u.Scheme == "https"}
	case "https:":
		return told{true, u.Scheme == "https"}
	}
	m := sourceForm.FindStringSubmatch(small(s))
	if m == nil || len(m[3]) > 20 {
		return told{}
	}
	ports := []int{80, 443}[len(u.Scheme)-4:][:1]
	if u.Port != 0 {
		ports[0] = u.Port
	}
	ok := u.Port == 0
	if m[4] == "*" {
		ok = true
	} else if m[4] != "" {
		n, _ := strconv.Atoi(m[4])
		if n > 65535 {
			return told{}
		}
		ok = slices.Contains(ports, n)
	}
	schemes := map[string][]string{"http": {"http", "https"}, "https": {"https"}, "": {page.Scheme, "https"}}[m[1]]
	host := "^" + regexp.QuoteMeta(m[3]) + "$"
	if m[2] != "" {
		host = `.\.` + host[1:]
	}
	return told{true, ok && slices.Contains(schemes, u.Scheme) && regexp.MustCompile(host).MatchString(u.Host)}
}

func small(s string) string {
	b := []byte(s)
	for i, c := range b {
		if c >= 'A' && c <= 'Z' {
			b[i] = c + 32
		}
	}
	return string(b)
}

func tellList(list string, page, u url.URL) (e api.Errno, allowed bool) {
	n, bad, single := 0, false, false
	for _, s := range blanks.Split(list, -1) {
		if s == "" {
			continue
		}
		n++
		a := tell(s, page, u)
		bad = bad || !a.source
		single = single || small(s) == "'none'"
		allowed = allowed || a.match
	}
	if bad || single && n > 1 || len(list) > 40 {
		e = api.ErrArg
	}
	return e, allowed || n == 0
}

// oracle holds the three calls against what the patterns tell of s, as a source and as a list.
func oracle(t testing.TB, s string) {
	t.Helper()
	for _, scheme := range []string{"http", "https"} {
		page := url.URL{Scheme: scheme, Host: "a", Path: "/"}
		for _, u := range oracleURLs {
			if got, want := Match(s, page, u), !strings.Contains(s, " ") && tell(s, page, u).match; got != want {
				t.Fatalf("Match(%q, %q, %q) = %t; want %t", s, url.Print(page), url.Print(u), got, want)
			}
			e, allowed := tellList(s, page, u)
			if got := Check(s); got != e {
				t.Fatalf("Check(%q) = %d; want %d", s, got, e)
			}
			if got := Allows(s, page, u); got != allowed {
				t.Fatalf("Allows(%q, %q, %q) = %t; want %t", s, url.Print(page), url.Print(u), got, allowed)
			}
		}
	}
}

var oracleURLs = []url.URL{
	{Scheme: "http", Host: "a", Path: "/"}, {Scheme: "https", Host: "a", Path: "/"}, {Scheme: "http", Host: "a.a", Path: "/"}, {Scheme: "https", Host: "b.a", Path: "/x"},
	{Scheme: "http", Host: "aa", Path: "/"}, {Scheme: "http", Host: "a", Port: 8, Path: "/"}, {Scheme: "https", Host: "a", Port: 80, Path: "/"}, {Scheme: "http", Host: "http", Path: "/"},
}

// All texts of few bytes, of those that a source is made of.
func TestShort(t *testing.T) {
	var all func(s string, n int)
	all = func(s string, n int) {
		oracle(t, s)
		if n == 0 {
			return
		}
		for _, c := range "aA.-*:8/ '" {
			all(s+string(c), n-1)
		}
	}
	all("", 4)
	for _, ahead := range []string{"http:", "https:", "http://", "HTTP://", "https://", "*.", "http://*.", "'self", "'none", "a:", "a:80", "'none' "} {
		for _, behind := range []string{"", "a", "'", ":8"} {
			all(ahead+behind, 2)
		}
	}
}

func TestRandom(t *testing.T) {
	pieces := []string{"'none'", "'self'", "'SELF'", "*", "*.", "http:", "https:", "HTTPS:", "http://", "https://", "HTTP://", "a", "A", "b", "a.a", "B.a", ".", "-", ":", ":*", ":8", ":80", ":443", ":0", ":00080", ":65535", ":65536", ":000080", " ", " ", "  ", "'", "/", "?", "#", "@", "\t", "\x80", "\u00e9", "abcdefghijklmnopqrst", "http", "none", "self", "0", "9"}
	r := rand.New(rand.NewSource(11))
	ok := 0
	for range 40000 {
		s := ""
		for range 1 + r.Intn(5) {
			s += pieces[r.Intn(len(pieces))]
		}
		oracle(t, s)
		if Check(s) == api.OK {
			ok++
		}
	}
	if ok < 2000 {
		t.Errorf("only %d of the lists are lists", ok)
	}
}

// What is very long ends, too.
func TestLong(t *testing.T) {
	const n = 1 << 20
	a, b := at(t, "http://a/"), at(t, "http://b/")
	for _, piece := range []string{" ", "a", "*", "*.", ".", ":", "'", "/", "0", "http://", "a ", "'none' ", "\x80", "\u00e9"} {
		s := strings.Repeat(piece, n)
		mustNotCheck(t, s)
		mustNotCheck(t, "http://"+s)
		mustNotCheck(t, "a:"+s)
		matches(t, s, a, a, false)
		matches(t, "http://"+s, a, a, false)
		matches(t, "a:8"+s, a, a, false)
		if got := Allows(s, a, a); got != (piece == " " || piece == "a ") {
			t.Errorf("Allows(%.20q..) = %t", s, got)
		}
		if got := Allows(s+" b", a, b); !got {
			t.Errorf("Allows(%.20q.. b) = false", s)
		}
		long := url.URL{Scheme: s, Host: s, Path: s, Query: s}
		matches(t, "'self'", long, long, true)
		matches(t, "'self'", a, long, false)
		matches(t, "http:", a, long, false)
		matches(t, "*.a", long, long, false)
	}
}

// The same call answers the same, and leaves what it is handed as it was.
func TestMemory(t *testing.T) {
	page, u := at(t, "http://a/x"), at(t, "https://b.a:8/y?z")
	b := []byte("  'SELF'   *.A:*  ")
	list := string(b)
	for range 3 {
		if Check(list) != api.OK || !Allows(list, page, u) || !Match("*.A:*", page, u) || Match("'SELF'", page, u) {
			t.Error("a call answers something else again")
		}
		if Check("a/") != api.ErrArg || Match("a/", page, u) || Allows("a/", page, u) {
			t.Error("a call that is refused is not refused again")
		}
	}
	if list != string(b) || page != at(t, "http://a/x") || u != at(t, "https://b.a:8/y?z") {
		t.Error("a call changed what it was handed")
	}
}

func FuzzMatch(f *testing.F) {
	for _, s := range []string{"", "'none'", "'Self'", "*", "http:", "HTTPS:", "a", "*.a:*", "http://*.a:80", "https://a.b:65535", "a:00080", "'self' b"} {
		f.Add(s, "http", "b.a", 8)
		f.Add(s, "https", "a", 0)
	}
	f.Fuzz(func(t *testing.T, s, scheme, host string, port int) {
		oracle(t, s)
		u := url.URL{Scheme: scheme, Host: host, Port: port}
		for _, page := range []url.URL{zero, u, {Scheme: "http", Host: "a"}} {
			got := Match(s, page, u)
			if got && strings.Contains(s, " ") {
				t.Errorf("Match(%q) = true", s)
			}
			if got && !Allows(s, page, u) {
				t.Errorf("Match(%q) = true, but Allows = false", s)
			}
		}
	})
}
