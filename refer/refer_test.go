package refer

import (
	"math"
	"math/rand"
	"regexp"
	"slices"
	"strconv"
	"strings"
	"testing"
	"unsafe"

	"postilion/api"
	"postilion/url"
)

var zero url.URL

var policies = []int{api.NoReferrer, api.OriginOnly, api.SameOrigin, api.Strict, api.StrictCross, api.Unsafe}

var noPolicies = []int{0, -1, -2, -6, 7, 8, 9, 64, 128, 255, 256, 257, 262, 65537, 1 << 32, 1<<32 + 1, 1<<32 + 6, math.MinInt32, math.MaxInt32, math.MinInt, math.MinInt + 1, math.MinInt + 6, math.MaxInt, math.MaxInt - 1}

func at(t testing.TB, s string) url.URL {
	t.Helper()
	u, e := url.Parse(s)
	if e != api.OK {
		t.Fatalf("%q is no URL", s)
	}
	return u
}

// by is the URL that is made by hand, as no text is taken apart.
func by(scheme, host string, port int, path, query string) url.URL {
	return url.URL{Scheme: scheme, Host: host, Port: port, Path: path, Query: query}
}

func mustSay(t *testing.T, policy int, page, u url.URL, want string) {
	t.Helper()
	if got := Of(policy, page, u); got != want {
		t.Errorf("Of(%d, %.90q, %.90q) = %.90q; want %.90q", policy, url.Print(page), url.Print(u), got, want)
	}
}

func mustOrigin(t *testing.T, tainted, cross bool, method string, page url.URL, want string) {
	t.Helper()
	if got := Origin(tainted, cross, method, page); got != want {
		t.Errorf("Origin(%t, %t, %.90q, %.90q) = %.90q; want %.90q", tainted, cross, method, url.Print(page), got, want)
	}
}

// says is what each policy says of a page, from the first one to the last.
type says [6]string

func mustSayAll(t *testing.T, page, u url.URL, want says) {
	t.Helper()
	for i, policy := range policies {
		mustSay(t, policy, page, u, want[i])
	}
	for _, policy := range noPolicies {
		mustSay(t, policy, page, u, "")
	}
}

// toOwn, toOther and down are what is said towards page's own origin, towards
// another one, and towards another one on whose way others listen.
func toOwn(origin, all string) says   { return says{"", origin, all, origin, all, all} }
func toOther(origin, all string) says { return says{"", origin, "", origin, origin, all} }
func down(origin, all string) says    { return says{"", origin, "", "", "", all} }

func TestNumbers(t *testing.T) {
	if !slices.Equal(policies, []int{1, 2, 3, 4, 5, 6}) {
		t.Errorf("the policies are %v", policies)
	}
}

func TestOwnOrigin(t *testing.T) {
	for _, row := range []struct{ page, origin, all string }{
		{"http://a/", "http://a/", "http://a/"},
		{"http://a", "http://a/", "http://a/"},
		{"HTTP://A.b:80", "http://a.b/", "http://a.b/"},
		{"http://a:080/p", "http://a/", "http://a/p"},
		{"https://a:443/p/q", "https://a/", "https://a/p/q"},
		{"https://a", "https://a/", "https://a/"},
		{"https://a:8/p?q", "https://a:8/", "https://a:8/p?q"},
		{"http://a:443/?q", "http://a:443/", "http://a:443/?q"},
		{"https://a:80?q", "https://a:80/", "https://a:80/?q"},
		{"http://a.b/p/../q d?r s#t", "http://a.b/", "http://a.b/q%20d?r%20s"},
		{"http://localhost/p", "http://localhost/", "http://localhost/p"},
		{"https://a:65535/", "https://a:65535/", "https://a:65535/"},
		{"http://abcdefghijklmnopqrst:65535/a?b=cd", "http://abcdefghijklmnopqrst:65535/", "http://abcdefghijklmnopqrst:65535/a?b=cd"},
	} {
		page := at(t, row.page)
		base := strings.TrimSuffix(row.origin, "/")
		for _, path := range []string{"", "/", "/p", "/p/q", "/?q", "/z", "/z?y", "?q", "?z"} {
			u := base + path
			if len(u) <= api.MaxURL {
				mustSayAll(t, page, at(t, u), toOwn(row.origin, row.all))
			}
		}
		mustSayAll(t, page, page, toOwn(row.origin, row.all))
	}
}

func TestOtherOrigin(t *testing.T) {
	for _, row := range []struct {
		page, u string
		want    says
	}{
		// Another host.
		{"http://a/p?q", "http://b/p?q", toOther("http://a/", "http://a/p?q")},
		{"http://a/p?q", "http://b.a/", toOther("http://a/", "http://a/p?q")},
		{"http://b.a/p?q", "http://a/", toOther("http://b.a/", "http://b.a/p?q")},
		{"http://a/", "http://aa/", toOther("http://a/", "http://a/")},
		{"http://aa/", "http://a/", toOther("http://aa/", "http://aa/")},
		{"http://a", "http://b", toOther("http://a/", "http://a/")},
		{"https://a/p", "https://b/p", toOther("https://a/", "https://a/p")},
		{"https://a:8/p", "https://b:8/p", toOther("https://a:8/", "https://a:8/p")},
		// Another port.
		{"http://a/p", "http://a:8/p", toOther("http://a/", "http://a/p")},
		{"http://a:8/p", "http://a/p", toOther("http://a:8/", "http://a:8/p")},
		{"http://a:8/p", "http://a:9/p", toOther("http://a:8/", "http://a:8/p")},
		{"http://a:8/p", "http://a:80/p", toOther("http://a:8/", "http://a:8/p")},
		{"http://a/p", "http://a:443/p", toOther("http://a/", "http://a/p")},
		{"https://a/p", "https://a:80/p", toOther("https://a/", "https://a/p")},
		{"https://a:8/p", "https://a:9/p", toOther("https://a:8/", "https://a:8/p")},
		{"https://a:80/?q", "https://a/?q", toOther("https://a:80/", "https://a:80/?q")},
		// Upwards.
		{"http://a/p?q", "https://a/p?q", toOther("http://a/", "http://a/p?q")},
		{"http://a:8/p", "https://a:8/p", toOther("http://a:8/", "http://a:8/p")},
		{"http://a:443/p", "https://a/p", toOther("http://a:443/", "http://a:443/p")},
		{"http://a/p", "https://a:80/p", toOther("http://a/", "http://a/p")},
		{"http://a/p", "https://b/p", toOther("http://a/", "http://a/p")},
		{"http://a:80/p", "https://b.a:9/", toOther("http://a/", "http://a/p")},
		{"http://localhost/p", "https://localhost/", toOther("http://localhost/", "http://localhost/p")},
		// Downwards.
		{"https://a/p?q", "http://a/p?q", down("https://a/", "https://a/p?q")},
		{"https://a:8/p", "http://a:8/p", down("https://a:8/", "https://a:8/p")},
		{"https://a/p", "http://a:443/p", down("https://a/", "https://a/p")},
		{"https://a:80/p", "http://a/p", down("https://a:80/", "https://a:80/p")},
		{"https://a/p", "http://b/", down("https://a/", "https://a/p")},
		{"https://a:443", "http://b:8/x?y", down("https://a/", "https://a/")},
		{"https://a/?q", "http://b:443/", down("https://a/", "https://a/?q")},
		// That nobody listens on the way to localhost makes no difference.
		{"https://a/p", "http://localhost/", down("https://a/", "https://a/p")},
		{"https://localhost/p", "http://localhost/p", down("https://localhost/", "https://localhost/p")},
		{"http://localhost/p", "http://a/p", toOther("http://localhost/", "http://localhost/p")},
	} {
		mustSayAll(t, at(t, row.page), at(t, row.u), row.want)
	}
}

// Each policy by itself, as the chapter names them.
func TestPolicies(t *testing.T) {
	page, own, other, listened := at(t, "https://a:8/p?q"), at(t, "https://a:8/z?y"), at(t, "https://b/"), at(t, "http://a:8/p?q")
	plain, plainOwn, plainOther, up := at(t, "http://a/p?q"), at(t, "http://a/z"), at(t, "http://b/"), at(t, "https://a/p?q")
	for _, row := range []struct {
		policy  int
		page, u url.URL
		want    string
	}{
		{api.NoReferrer, page, own, ""},
		{api.NoReferrer, page, page, ""},
		{api.NoReferrer, plain, plainOther, ""},
		{api.OriginOnly, page, own, "https://a:8/"},
		{api.OriginOnly, page, other, "https://a:8/"},
		{api.OriginOnly, page, listened, "https://a:8/"},
		{api.OriginOnly, plain, up, "http://a/"},
		{api.SameOrigin, page, own, "https://a:8/p?q"},
		{api.SameOrigin, page, other, ""},
		{api.SameOrigin, page, listened, ""},
		{api.SameOrigin, plain, plainOwn, "http://a/p?q"},
		{api.SameOrigin, plain, up, ""},
		{api.Strict, page, own, "https://a:8/"},
		{api.Strict, page, other, "https://a:8/"},
		{api.Strict, page, listened, ""},
		{api.Strict, plain, plainOwn, "http://a/"},
		{api.Strict, plain, plainOther, "http://a/"},
		{api.Strict, plain, up, "http://a/"},
		{api.StrictCross, page, own, "https://a:8/p?q"},
		{api.StrictCross, page, other, "https://a:8/"},
		{api.StrictCross, page, listened, ""},
		{api.StrictCross, plain, plainOwn, "http://a/p?q"},
		{api.StrictCross, plain, plainOther, "http://a/"},
		{api.StrictCross, plain, up, "http://a/"},
		{api.Unsafe, page, own, "https://a:8/p?q"},
		{api.Unsafe, page, other, "https://a:8/p?q"},
		{api.Unsafe, page, listened, "https://a:8/p?q"},
		{api.Unsafe, plain, up, "http://a/p?q"},
	} {
		mustSay(t, row.policy, row.page, row.u, row.want)
	}
}

func TestNoPolicy(t *testing.T) {
	list := append(slices.Clone(noPolicies), policies[0])
	for n := -300; n <= 300; n++ {
		if n < 1 || n > 6 {
			list = append(list, n)
		}
	}
	for k := range 63 {
		list = append(list, 1<<k+64, -1<<k)
	}
	for _, policy := range list {
		for _, page := range []string{"http://a/p?q", "https://a:8/p", "https://b/"} {
			for _, u := range []string{page, "http://a/", "https://a/", "http://c:8/z?y"} {
				mustSay(t, policy, at(t, page), at(t, u), "")
			}
			mustSay(t, policy, at(t, page), zero, "")
		}
		mustSay(t, policy, zero, zero, "")
	}
}

// URLs such as Parse never makes are taken as they stand.
func TestByHand(t *testing.T) {
	a, s := at(t, "http://a/"), at(t, "https://a/")
	for _, row := range []struct {
		page, u url.URL
		want    says
	}{
		{zero, zero, toOwn(":///", "://")},
		{zero, a, toOther(":///", "://")},
		{zero, s, toOther(":///", "://")},
		{a, zero, toOther("http://a/", "http://a/")},
		{s, zero, toOther("https://a/", "https://a/")},
		// Without a path, with none that begins with a slash.
		{by("https", "a", 0, "", ""), s, toOwn("https://a/", "https://a")},
		{by("https", "a", 0, "", "?q"), s, toOwn("https://a/", "https://a?q")},
		{by("https", "a", 0, "", "q"), at(t, "https://b/"), toOther("https://a/", "https://aq")},
		{by("https", "a", 0, "p", ""), a, down("https://a/", "https://ap")},
		{by("https", "a", 0, "//", "?"), s, toOwn("https://a/", "https://a//?")},
		{s, by("https", "a", 0, "", ""), toOwn("https://a/", "https://a/")},
		{s, by("https", "a", 0, "x", "y"), toOwn("https://a/", "https://a/")},
		// Its own port written out is another origin then, and other ports as they are.
		{by("http", "a", 80, "/p", ""), a, toOther("http://a:80/", "http://a:80/p")},
		{by("http", "a", 80, "/p", ""), by("http", "a", 80, "/", ""), toOwn("http://a:80/", "http://a:80/p")},
		{by("https", "a", 443, "/p", ""), s, toOther("https://a:443/", "https://a:443/p")},
		{by("https", "a", 443, "/p", ""), a, down("https://a:443/", "https://a:443/p")},
		{by("http", "a", -1, "/p", ""), a, toOther("http://a:-1/", "http://a:-1/p")},
		{by("http", "a", math.MinInt, "/", ""), a, toOther("http://a:-9223372036854775808/", "http://a:-9223372036854775808/")},
		{by("https", "a", math.MaxInt, "/", ""), a, down("https://a:9223372036854775807/", "https://a:9223372036854775807/")},
		// Only https and http, in small letters, are https and http.
		{by("HTTPS", "a", 0, "/p", ""), a, toOther("HTTPS://a/", "HTTPS://a/p")},
		{by("Https", "a", 0, "/p", ""), a, toOther("Https://a/", "Https://a/p")},
		{s, by("HTTP", "a", 0, "/", ""), toOther("https://a/", "https://a/")},
		{s, by("hTTp", "b", 0, "/", ""), toOther("https://a/", "https://a/")},
		{s, by("HTTPS", "a", 0, "/", ""), toOther("https://a/", "https://a/")},
		{s, by("", "a", 0, "/", ""), toOther("https://a/", "https://a/")},
		{s, by("ftp", "a", 0, "/", ""), toOther("https://a/", "https://a/")},
		{s, by("http:", "a", 0, "/", ""), toOther("https://a/", "https://a/")},
		{s, by(" http", "a", 0, "/", ""), toOther("https://a/", "https://a/")},
		{s, by("httpx", "a", 0, "/", ""), toOther("https://a/", "https://a/")},
		{s, by("htt", "a", 0, "/", ""), toOther("https://a/", "https://a/")},
		{s, by("http", "", 0, "", ""), down("https://a/", "https://a/")},
		{by("https", "", 0, "", ""), by("http", "", 0, "", ""), down("https:///", "https://")},
		{by("https\x00", "a", 0, "/p", ""), a, toOther("https\x00://a/", "https\x00://a/p")},
		{by("httpss", "a", 0, "/p", ""), a, toOther("httpss://a/", "httpss://a/p")},
		{by("wss", "a", 0, "/p", ""), a, toOther("wss://a/", "wss://a/p")},
		{by("", "a", 0, "/p", ""), a, toOther("://a/", "://a/p")},
		{by("https", "A", 0, "/p", ""), s, toOther("https://A/", "https://A/p")},
		{by("https", "A", 0, "/p", ""), a, down("https://A/", "https://A/p")},
		// Origins are alike if their texts are.
		{by("http", "a:8", 0, "/p", ""), at(t, "http://a:8/"), toOwn("http://a:8/", "http://a:8/p")},
		{by("", "", 0, "http://a", ""), a, toOther(":///", "://http://a")},
		{by("\xff", "\x00 \r\n", 7, "\x80", "\u00e9"), a, toOther("\xff://\x00 \r\n:7/", "\xff://\x00 \r\n:7\x80\u00e9")},
	} {
		mustSayAll(t, row.page, row.u, row.want)
	}
}

var otherMethods = []string{
	"POST", "PUT", "DELETE", "PATCH", "OPTIONS", "TRACE", "CONNECT", "", " ", "get", "head", "Get", "Head", "gET", "GEt", "HEAd", "hEAD", "post",
	"GE", "ET", "G", "GETT", "GGET", "HEA", "EAD", "HEADD", "HHEAD", "GET ", " GET", "HEAD ", " HEAD", "GET\t", "GET\n", "GET\r\n", "GET\x00", "\x00GET", "GET,HEAD", "GET HEAD", "GETHEAD", "HEADGET",
	"G\x00T", "G ET", "G\u0395T", "\uff27\uff25\uff34", "\xff", "\x80GET", "null", "GET/", "*", "TEG", "DAEH", "0", "1",
}

func TestOrigin(t *testing.T) {
	for _, row := range []struct{ page, origin string }{
		{"http://a/", "http://a"},
		{"http://a", "http://a"},
		{"HTTP://A.b:80/p", "http://a.b"},
		{"https://a:443", "https://a"},
		{"https://a:8/p?q", "https://a:8"},
		{"https://a:80?q", "https://a:80"},
		{"http://a:443/", "http://a:443"},
		{"http://localhost/", "http://localhost"},
		{"http://null/", "http://null"},
	} {
		page := at(t, row.page)
		for _, method := range []string{"GET", "HEAD"} {
			mustOrigin(t, false, false, method, page, "")
			mustOrigin(t, true, false, method, page, "")
			mustOrigin(t, false, true, method, page, row.origin)
			mustOrigin(t, true, true, method, page, "null")
		}
		for _, method := range otherMethods {
			for _, cross := range []bool{false, true} {
				mustOrigin(t, false, cross, method, page, row.origin)
				mustOrigin(t, true, cross, method, page, "null")
			}
		}
	}
}

func TestOriginByHand(t *testing.T) {
	for _, row := range []struct {
		page   url.URL
		origin string
	}{
		{zero, "://"},
		{by("", "a", 0, "/p", ""), "://a"},
		{by("", "", 0, "null", "null"), "://"},
		{by("http", "", 0, "", ""), "http://"},
		{by("HTTP", "A", 80, "p", "q"), "HTTP://A:80"},
		{by("https", "a", 443, "/", "?q"), "https://a:443"},
		{by("https", "a", -7, "", "?q"), "https://a:-7"},
		{by("https", "a", math.MinInt, "", ""), "https://a:-9223372036854775808"},
		{by("\xff", "\x00", math.MaxInt, "/", ""), "\xff://\x00:9223372036854775807"},
	} {
		for _, method := range []string{"GET", "HEAD"} {
			mustOrigin(t, false, false, method, row.page, "")
			mustOrigin(t, true, false, method, row.page, "")
			mustOrigin(t, false, true, method, row.page, row.origin)
			mustOrigin(t, true, true, method, row.page, "null")
		}
		for _, method := range []string{"", "get", "POST"} {
			mustOrigin(t, false, false, method, row.page, row.origin)
			mustOrigin(t, false, true, method, row.page, row.origin)
			mustOrigin(t, true, false, method, row.page, "null")
			mustOrigin(t, true, true, method, row.page, "null")
		}
	}
}

// Each text of up to three bytes, and each that is one byte off.
func TestMethods(t *testing.T) {
	page := at(t, "https://a:8/p")
	tell := func(method string) {
		for _, tainted := range []bool{false, true} {
			want := "https://a:8"
			if tainted {
				want = "null"
			}
			mustOrigin(t, tainted, true, method, page, want)
			if method == "GET" || method == "HEAD" {
				want = ""
			}
			mustOrigin(t, tainted, false, method, page, want)
		}
	}
	for c := range 256 {
		one := string([]byte{byte(c)})
		tell(one)
		for d := range 256 {
			tell(one + string([]byte{byte(d)}))
		}
		for _, s := range []string{"GET", "HEAD"} {
			for k := range len(s) + 1 {
				tell(s[:k] + one + s[k:])
				if k < len(s) {
					tell(s[:k] + one + s[k+1:])
					tell(s[:k] + s[k+1:])
				}
			}
		}
	}
	for n := range 26 * 26 * 26 {
		tell(string([]byte{byte('A' + n/676), byte('A' + n/26%26), byte('A' + n%26)}))
	}
}

// What follows says the same a second time, by the fields of the URLs and by a
// pattern for the methods.

func text(u url.URL) (origin, all string) {
	port := ""
	if u.Port != 0 {
		port = ":" + strconv.Itoa(u.Port)
	}
	origin = strings.Join([]string{u.Scheme, "://", u.Host, port}, "")
	return origin, strings.Join([]string{origin, u.Path, u.Query}, "")
}

func tellOf(policy int, page, u url.URL) string {
	origin, all := text(page)
	other, _ := text(u)
	short := origin + "/"
	table := toOther(short, all)
	if page.Scheme == "https" && u.Scheme == "http" {
		table = down(short, all)
	}
	if origin == other {
		table = toOwn(short, all)
	}
	if i := slices.Index(policies, policy); i >= 0 {
		return table[i]
	}
	return ""
}

var quiet = regexp.MustCompile(`\A(GET|HEAD)\z`)

func tellOrigin(tainted, cross bool, method string, page url.URL) string {
	origin, _ := text(page)
	said := cross || !quiet.MatchString(method)
	return map[[2]bool]string{{true, true}: "null", {true, false}: origin}[[2]bool{said, tainted}]
}

func oracle(t testing.TB, policy int, method string, page, u url.URL) {
	t.Helper()
	if got, want := Of(policy, page, u), tellOf(policy, page, u); got != want {
		t.Fatalf("Of(%d, %q, %q) = %q; want %q", policy, url.Print(page), url.Print(u), got, want)
	}
	for _, tainted := range []bool{false, true} {
		for _, cross := range []bool{false, true} {
			if got, want := Origin(tainted, cross, method, page), tellOrigin(tainted, cross, method, page); got != want {
				t.Fatalf("Origin(%t, %t, %q, %q) = %q; want %q", tainted, cross, method, url.Print(page), got, want)
			}
		}
	}
}

// Each policy, of each pair of some URLs.
func TestPairs(t *testing.T) {
	list := []url.URL{zero}
	for _, scheme := range []string{"http", "https", "HTTP", "", "ftp"} {
		for _, host := range []string{"a", "b", "b.a", "localhost", ""} {
			for _, port := range []int{0, 8, 80, 443, -1} {
				for _, end := range [][2]string{{"/", ""}, {"/p", "?q"}, {"", ""}} {
					list = append(list, by(scheme, host, port, end[0], end[1]))
				}
			}
		}
	}
	for i, page := range list {
		for j, u := range list {
			for policy := -1; policy <= 8; policy++ {
				oracle(t, policy, []string{"GET", "HEAD", "POST", "get", ""}[(i+j+policy+1)%5], page, u)
			}
		}
	}
}

func TestRandom(t *testing.T) {
	r := rand.New(rand.NewSource(12))
	pick := func(list ...string) string { return list[r.Intn(len(list))] }
	some := func() url.URL {
		u := by(pick("http", "https", "https", "x"), pick("a", "a", "a.a", "b", "localhost", "\x80"), 0, pick("/", "/p", "/p/q", "", "x"), pick("", "?q", "?", "\xff"))
		if r.Intn(2) == 0 {
			u.Port = []int{8, 80, 443, 65535, -1, r.Int()}[r.Intn(6)]
		}
		return u
	}
	for range 200000 {
		page, u := some(), some()
		if r.Intn(3) == 0 {
			u.Scheme, u.Host, u.Port = page.Scheme, page.Host, page.Port
		}
		oracle(t, r.Intn(10)-1, pick("GET", "HEAD", "POST", "get", "", "GET "), page, u)
	}
}

// What is very long ends, too.
func TestLong(t *testing.T) {
	const n = 1 << 20
	a, s := at(t, "http://a/"), at(t, "https://a/")
	for _, piece := range []string{"a", "/", "https", "GET", "\x80", "\u00e9"} {
		x := strings.Repeat(piece, n)
		long := by(x, x, 7, x, x)
		mustSayAll(t, long, long, toOwn(x+"://"+x+":7/", x+"://"+x+":7"+x+x))
		mustSayAll(t, long, a, toOther(x+"://"+x+":7/", x+"://"+x+":7"+x+x))
		mustSayAll(t, by("https", x, 0, x, ""), a, down("https://"+x+"/", "https://"+x+x))
		mustSayAll(t, s, by("http", x, 0, x, ""), down("https://a/", "https://a/"))
		mustOrigin(t, false, false, x, long, x+"://"+x+":7")
		mustOrigin(t, true, false, x, long, "null")
		mustOrigin(t, false, false, "GET", long, "")
		mustOrigin(t, false, false, "GET"+x, a, "http://a")
	}
}

// within tells whether the memory of part lies in that of s.
func within(part, s string) bool {
	if part == "" || s == "" {
		return false
	}
	p, q := uintptr(unsafe.Pointer(unsafe.StringData(part))), uintptr(unsafe.Pointer(unsafe.StringData(s)))
	return p < q+uintptr(len(s)) && q < p+uintptr(len(part))
}

// The same call answers the same, leaves what it is handed as it was, and
// answers memory of its own.
func TestMemory(t *testing.T) {
	pages := []url.URL{zero, at(t, "https://a:8/p?q"), by("", "", 0, strings.Repeat("p", 50), ""), by("", "", 0, "", strings.Repeat("q", 50)), by(strings.Repeat("s", 50), "", 0, "", ""), by("", strings.Repeat("h", 50), 0, "", "")}
	us := []url.URL{zero, at(t, "https://a:8/z"), at(t, "http://b/"), pages[2]}
	for _, page := range pages {
		for _, u := range us {
			was, wasU := page, u
			for policy := 0; policy <= 7; policy++ {
				first, origin := Of(policy, page, u), Origin(false, true, "POST", page)
				for range 3 {
					mustSay(t, policy, page, u, first)
					mustOrigin(t, false, true, "POST", page, origin)
				}
				for _, x := range []url.URL{page, u} {
					for _, s := range []string{x.Scheme, x.Host, x.Path, x.Query} {
						if within(first, s) || within(origin, s) {
							t.Errorf("what is said of %q lies in what was handed in", url.Print(page))
						}
					}
				}
			}
			if page != was || u != wasU {
				t.Error("a call changed what it was handed")
			}
		}
	}
}

func FuzzRefer(f *testing.F) {
	f.Add(5, "GET", "https", "a", 8, "/p", "?q", "http", "b", 0, "/", "")
	f.Add(4, "POST", "http", "a", 0, "/", "", "https", "a", 0, "/", "")
	f.Add(7, "", "", "", 0, "", "", "", "", 0, "", "")
	f.Fuzz(func(t *testing.T, policy int, method, s1, h1 string, p1 int, path1, q1, s2, h2 string, p2 int, path2, q2 string) {
		page, u := by(s1, h1, p1, path1, q1), by(s2, h2, p2, path2, q2)
		for _, n := range append([]int{policy}, policies...) {
			oracle(t, n, method, page, u)
			oracle(t, n, method, page, by(s1, h1, p1, path2, q2))
			oracle(t, n, method, u, page)
		}
	})
}
