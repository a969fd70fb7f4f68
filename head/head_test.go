package head

import (
	"fmt"
	"math/rand"
	"regexp"
	"slices"
	"strings"
	"testing"
	"unsafe"

	"postilion/api"
)

func at(name, value string) api.Head { return api.Head{Name: name, Value: value} }

func one(c int) string { return string([]byte{byte(c)}) }

func mustName(t *testing.T, s string, want bool) {
	t.Helper()
	if got := Name(s); got != want {
		t.Errorf("Name(%.60q) = %t", s, got)
	}
}

func mustValue(t *testing.T, s string, want bool) {
	t.Helper()
	if got := Value(s); got != want {
		t.Errorf("Value(%.60q) = %t", s, got)
	}
}

func mustForbid(t *testing.T, name string, want bool) {
	t.Helper()
	if got := Forbidden(name); got != want {
		t.Errorf("Forbidden(%.60q) = %t", name, got)
	}
}

func mustCheck(t *testing.T, want api.Errno, l ...api.Head) {
	t.Helper()
	if got := Check(l...); got != want {
		t.Errorf("Check(%.90q) = %d; want %d", l, got, want)
	}
}

func mustGet(t *testing.T, name, want string, l ...api.Head) {
	t.Helper()
	if got, ok := Get(name, l...); got != want || !ok {
		t.Errorf("Get(%.60q, %.90q) = %.60q, %t; want %.60q, true", name, l, got, ok, want)
	}
}

func mustNotGet(t *testing.T, name string, l ...api.Head) {
	t.Helper()
	if got, ok := Get(name, l...); got != "" || ok {
		t.Errorf("Get(%.60q, %.90q) = %.60q, %t; want nothing and false", name, l, got, ok)
	}
}

func mustSimple(t *testing.T, name, value string, want bool) {
	t.Helper()
	if got := Simple(at(name, value)); got != want {
		t.Errorf("Simple(%.60q: %.60q) = %t", name, value, got)
	}
}

func mustUnsafe(t *testing.T, want []string, l ...api.Head) {
	t.Helper()
	if got := Unsafe(l...); !slices.Equal(got, want) {
		t.Errorf("Unsafe(%.90q) = %.90q; want %.90q", l, got, want)
	}
}

// cases are s with every choice of small and great letters.
func cases(s string) []string {
	all := []string{""}
	for i := range len(s) {
		small, great := strings.ToLower(s[i:i+1]), strings.ToUpper(s[i:i+1])
		var longer []string
		for _, begun := range all {
			longer = append(longer, begun+small)
			if great != small {
				longer = append(longer, begun+great)
			}
		}
		all = longer
	}
	return all
}

const (
	nameBytes = "ABCDEFGHIJKLMNOPQRSTUVWXYZabcdefghijklmnopqrstuvwxyz0123456789-"
	forbidden = "host origin referer cookie connection range if-range"
)

func TestName(t *testing.T) {
	for _, s := range []string{"a", "Z", "0", "9", "-", "--", "-a", "a-", "X-9z", "if-range", "content-type", "123", "sec-", "host", "abcdefghijkl", "ABCDEFGHIJKL", "------------"} {
		mustName(t, s, true)
	}
	for _, s := range []string{
		"", " ", " a", "a ", "a b", "a:", ":a", ":", "a_b", "a.b", "a/b", "a\x00", "\x00", "a\n", "\na", "a\r\n", "\u00e9", "a\u00e9", "\xff", "\u017f", "\u212a", "\u2010", "\uff0d", "\u0661",
		"abcdefghijklm", "-------------", "abcdefghijk\u00e9", "abcdefghijkl ", " abcdefghijkl", "content-types",
	} {
		mustName(t, s, false)
	}
}

func TestNameOfEveryByte(t *testing.T) {
	for c := range 256 {
		want := strings.Contains(nameBytes, one(c))
		for _, form := range []string{"*", "a*", "*a", "a*b", "abcdefghijk*", "*bcdefghijkl", "abcdef*hijkl"} {
			mustName(t, strings.ReplaceAll(form, "*", one(c)), want)
		}
		mustName(t, "abcdefghijkl"+one(c), false)
		mustName(t, one(c)+"abcdefghijkl", false)
	}
}

func TestNameOfEveryLength(t *testing.T) {
	for n := range 4 * api.MaxName {
		for c := range nameBytes {
			mustName(t, strings.Repeat(nameBytes[c:c+1], n), n >= 1 && n <= api.MaxName)
		}
	}
	mustName(t, strings.Repeat("a", 1<<20), false)
}

func TestValue(t *testing.T) {
	for _, s := range []string{"", "a", "a b", "a  b", "~", "!", "!~", "text/plain;x=y", "a: b", "\"', \\;", "1234567890123456", "1 345678901234 6", "1              6"} {
		mustValue(t, s, true)
	}
	for _, s := range []string{
		" ", "  ", " a", "a ", " a ", " a b", "a b ", "\t", "a\t", "\ta", "a\tb", "a\r\nb", "\n", "a\n", "\x00", "a\x00b", "\x1f", "a\x1fb", "\x7f", "a\x7f", "\x80", "\u00a0", "\u00e9", "a\u00e9b", "\xff", "\u2003",
		"12345678901234567", "123456789012345 ", " 23456789012345 ", " 234567890123456", "                ", " 1234567890123456", "1234567890123456 ", "123456789012345\u00e9",
	} {
		mustValue(t, s, false)
	}
}

func TestValueOfEveryByte(t *testing.T) {
	for c := range 256 {
		inside := c >= 32 && c <= 126
		for _, form := range []string{"a*b", "1234567*90123456", "1*34567890123456", "12345678901234*6"} {
			mustValue(t, strings.ReplaceAll(form, "*", one(c)), inside)
		}
		for _, form := range []string{"*", "a*", "*a", "**", "a b*", "*a b", "123456789012345*", "*234567890123456"} {
			mustValue(t, strings.ReplaceAll(form, "*", one(c)), inside && c != 32)
		}
		mustValue(t, "1234567890123456"+one(c), false)
		mustValue(t, one(c)+"1234567890123456", false)
	}
}

func TestValueOfEveryLength(t *testing.T) {
	for n := range 4 * api.MaxValue {
		for c := '!'; c <= '~'; c++ {
			mustValue(t, strings.Repeat(string(c), n), n <= api.MaxValue)
		}
		mustValue(t, strings.Repeat(" ", n), n == 0)
		mustValue(t, "a"+strings.Repeat(" ", n)+"b", n+2 <= api.MaxValue)
	}
	mustValue(t, strings.Repeat("a", 1<<20), false)
}

func TestForbidden(t *testing.T) {
	for _, name := range strings.Fields(forbidden) {
		for _, s := range cases(name) {
			mustForbid(t, s, true)
		}
		for _, s := range []string{"x" + name, name + "x", name + "s", "x-" + name, name + "-", " " + name, name + " ", name + "\x00", name[1:], name[:len(name)-1], name + name} {
			mustForbid(t, s, false)
		}
	}
	for _, begin := range []string{"sec-", "proxy-"} {
		for _, s := range cases(begin) {
			for _, end := range []string{"", "a", "Z", "-", "9", " ", "\x00", "\u00e9", "fetch-mode", strings.Repeat("a", 1<<10)} {
				mustForbid(t, s+end, true)
			}
			for _, s := range []string{"x" + s, "-" + s, " " + s, s[1:], s[:len(s)-1], s[:len(s)-1] + "a", s[:len(s)-1] + "_", s[:len(s)-1] + " -"} {
				mustForbid(t, s, false)
			}
		}
	}
	for _, s := range []string{"", " ", "-", "a", "accept", "content-type", "if", "if-", "if-match", "if_range", "ran", "cookies", "set-cookie", "s", "ec-", "proxie-", "pro-xy-", "\u017fec-a", "coo\u212aie", "\xff", "ho\u017ft", "or\u0130gin", "\u0130f-range"} {
		mustForbid(t, s, false)
	}
}

func TestForbiddenOfEveryByte(t *testing.T) {
	// Every other byte in the place of one letter.
	for _, name := range append(strings.Fields(forbidden), "sec-", "proxy-", "sec-a", "proxy-a") {
		for i := range len(name) {
			past := strings.Index(name, "-") + 1
			for c := range 256 {
				s := name[:i] + one(c) + name[i+1:]
				begun := (strings.HasPrefix(name, "sec-") || strings.HasPrefix(name, "proxy-")) && i >= past
				mustForbid(t, s, begun || strings.ToLower(one(c)) == name[i:i+1])
			}
		}
	}
}

func TestCheck(t *testing.T) {
	mustCheck(t, api.OK)
	mustCheck(t, api.OK, []api.Head{}...)
	mustCheck(t, api.OK, at("a", ""))
	mustCheck(t, api.OK, at("a", "1"), at("b", ""))
	mustCheck(t, api.OK, at("a", "1"), at("b", "1"))
	mustCheck(t, api.OK, at("Accept", "x y"), at("Content-Type", "text/plain"))
	mustCheck(t, api.OK, at("abcdefghijkl", "1234567890123456"), at("abcdefghijkm", "1234567890123456"))
	mustCheck(t, api.OK, at("-", ""), at("--", ""))
	mustCheck(t, api.OK, at("a", ""), at("ab", ""))
	mustCheck(t, api.OK, at("sec", ""), at("proxy", ""))
}

func TestCheckOfMany(t *testing.T) {
	var l []api.Head
	for n := range 4 * api.MaxHeads {
		want := api.OK
		if n > api.MaxHeads {
			want = api.ErrArg
		}
		mustCheck(t, want, l...)
		l = append(l, at(fmt.Sprint("n", n), "v"))
	}
	mustCheck(t, api.ErrArg, make([]api.Head, 1<<20)...)
}

func TestCheckOfWrong(t *testing.T) {
	wrong := []api.Head{
		at("", ""), at("", "1"), at("a b", "1"), at("a:", ""), at("\u00e9", ""), at("abcdefghijklm", ""), at("\xff", ""), at(" a", ""),
		at("a", " "), at("a", " 1"), at("a", "1 "), at("a", "12345678901234567"), at("a", "\x1f"), at("a", "\x7f"), at("a", "\u00e9"), at("a", "1\r\n2"),
		at("sec-", ""), at("SEC-x", ""), at("proxy-", "1"), at("Proxy-a", "1"),
	}
	for _, name := range strings.Fields(forbidden) {
		wrong = append(wrong, at(name, "x"), at(strings.ToUpper(name), ""), at(strings.ToUpper(name[:1])+name[1:], "y"))
	}
	for _, w := range wrong {
		mustCheck(t, api.ErrArg, w)
		mustCheck(t, api.ErrArg, w, at("b", "1"))
		mustCheck(t, api.ErrArg, at("b", "1"), w)
		// Two alike as well: the other fault is named first.
		mustCheck(t, api.ErrArg, w, at(w.Name, "1"))
		mustCheck(t, api.ErrArg, at(strings.ToUpper(w.Name), "1"), w)
		mustCheck(t, api.ErrArg, w, w)
		mustCheck(t, api.ErrArg, w, w, w)
	}
}

func TestCheckOfTwoAlike(t *testing.T) {
	for _, name := range []string{"a", "-", "9", "x-y", "accept", "Content-Type", "abcdefghijkl"} {
		small, great := strings.ToLower(name), strings.ToUpper(name)
		for _, a := range []string{name, small, great} {
			for _, b := range []string{name, small, great} {
				mustCheck(t, api.ErrThere, at(a, "1"), at(b, "1"))
				mustCheck(t, api.ErrThere, at(a, "1"), at(b, "2"))
				mustCheck(t, api.ErrThere, at(a, ""), at(b, ""))
				mustCheck(t, api.ErrArg, at(a, "1"), at(b, "2"), at("x", ""))
				mustCheck(t, api.ErrArg, at("x", ""), at(a, "1"), at(b, "2"))
				mustCheck(t, api.ErrArg, at(a, "1"), at(b, " "))
				mustCheck(t, api.ErrArg, at(a, "\x7f"), at(b, "1"))
			}
		}
	}
	for _, s := range cases("ab-cd") {
		mustCheck(t, api.ErrThere, at("ab-cd", "1"), at(s, "2"))
		mustCheck(t, api.ErrThere, at(s, "1"), at("AB-CD", "2"))
	}
	// What differs by 32 is alike in letters alone.
	mustCheck(t, api.OK, at("-", ""), at("m", ""))
	mustCheck(t, api.OK, at("p", ""), at("0", ""))
}

func TestGet(t *testing.T) {
	l := []api.Head{at("A", "1"), at("b", ""), at("a", "3"), at("B", "4"), at("c-D", "5 6")}
	mustGet(t, "a", "1", l...)
	mustGet(t, "A", "1", l...)
	mustGet(t, "b", "", l...)
	mustGet(t, "B", "", l...)
	mustGet(t, "a", "3", l[1:]...)
	mustGet(t, "A", "3", l[1:]...)
	mustGet(t, "b", "4", l[2:]...)
	for _, s := range cases("c-d") {
		mustGet(t, s, "5 6", l...)
	}
	for _, name := range []string{"", " ", "c", "d", "a ", " a", "a:", "aa", "c-", "-D", "c-D ", "c_D", "\u00e9", "A\x00"} {
		mustNotGet(t, name, l...)
	}
	for _, name := range []string{"", "a", "A", "host", "1", "\xff"} {
		mustNotGet(t, name)
		mustNotGet(t, name, []api.Head{}...)
	}
	mustNotGet(t, "1", l...) // a value, not a name
	mustNotGet(t, "a", l[4:]...)
	mustNotGet(t, "b", l[:1]...)
}

// Get asks of a name only whether it is alike, not whether it may be one.
func TestGetOfAnyName(t *testing.T) {
	for _, name := range []string{"", " ", "a b", "Host", "sec-x", "A Name that is too long", "\xff", "\u00e9\x00A", "content-length"} {
		mustGet(t, name, "x\x00\u00e9 ", at("other", "1"), at(name, "x\x00\u00e9 "), at(name, "2"))
		mustGet(t, lowered(name), "x", at(name, "x"))
		mustGet(t, name, "x", at(lowered(name), "x"))
		mustNotGet(t, name+"x", at(name, "1"))
		mustNotGet(t, "x"+name, at(name, "1"))
	}
	mustNotGet(t, "\u00e9", at("\u00c9", "1")) // A to Z alone
	mustNotGet(t, "k", at("\u212a", "1"))
	mustNotGet(t, "s", at("\u017f", "1"))
	mustNotGet(t, "i", at("\u0130", "1"))
	for a := range 256 {
		for b := range 256 {
			if a == b || a < 128 && b < 128 && strings.EqualFold(one(a), one(b)) {
				mustGet(t, one(a), "v", at(one(b), "v"))
			} else {
				mustNotGet(t, one(a), at(one(b), "v"))
			}
		}
	}
}

func TestSimple(t *testing.T) {
	for _, name := range []string{"accept", "accept-lang"} {
		for _, s := range cases(name) {
			mustSimple(t, s, "x", true)
			mustSimple(t, s, "", true)
		}
		for _, value := range []string{" ", "text/plain", "a;b", "\x00\xff", strings.Repeat("a", 1<<10)} {
			mustSimple(t, name, value, true)
		}
	}
	for _, name := range []string{"", "a", "x", "accep", "accepts", "accept-", "accept-lan", "accept-langs", "accept-language", "accept_lang", " accept", "accept ", "xaccept", "content", "content-typ", "content-types", "content_type", "content-type ", " content-type", "type", "host", "sec-x", "\u00e9", "text/plain"} {
		for _, value := range []string{"", "x", "text/plain", "text/plain;x", "accept"} {
			mustSimple(t, name, value, false)
		}
	}
	for i := range len("accept") {
		for c := range 256 {
			s := "accept"[:i] + one(c) + "accept"[i+1:]
			mustSimple(t, s, "1", strings.ToLower(one(c)) == "accept"[i:i+1])
		}
	}
}

func TestSimpleOfContentTypes(t *testing.T) {
	for _, s := range cases("content-type") {
		mustSimple(t, s, "text/plain", true)
		mustSimple(t, s, "Text/Plain;x", true)
		mustSimple(t, s, "text/html", false)
	}
	for _, s := range cases("text/plain") {
		mustSimple(t, "content-type", s, true)
		mustSimple(t, "Content-Type", s+";charset=utf-8", true)
	}
	for _, value := range []string{
		"text/plain", "text/plain;", "text/plain;;", "text/plain; ", "text/plain ;", " text/plain", "text/plain ", " text/plain ", " TEXT/Plain ; x=y", "text/plain;a;b", "text/plain;text/html", "text/plain; \xff\x00", "\ttext/plain\r\n;", "\x00text/plain\x1f", "  \t text/plain \n\v  ;x", "\r\n text/plain",
	} {
		mustSimple(t, "content-type", value, true)
	}
	for _, value := range []string{
		"", " ", ";", " ; ", ";text/plain", " ;text/plain", "a;text/plain", "text/html;text/plain", "text/plain,text/html", "text/plain x", "text/plainx", "xtext/plain", "text/plai", "ext/plain", "text /plain", "text/ plain", "text/\tplain", "text", "plain", "/", "text\\plain", "text/plain/", "text/plain:", "text/plain,", "text/plain=",
		"application/json", "text/html", "*/*", "\"text/plain\"", "text/plain\x7f", "\x7ftext/plain", "\u00a0text/plain", "text/plain\u00a0;x", "te\uff58t/plain", "text/p\u217cain", "text/pla\u0130n",
	} {
		mustSimple(t, "content-type", value, false)
	}
	for c := range 256 {
		blank := c <= 32
		for _, form := range []string{"text/plain*", "*text/plain", "**text/plain**;x", "text/plain*;*", "*text/plain;*x"} {
			want := blank || one(c) == ";" && form[0] != '*'
			mustSimple(t, "content-type", strings.ReplaceAll(form, "*", one(c)), want)
		}
		mustSimple(t, "content-type", "text/plain;"+one(c), true)
		mustSimple(t, "content-type", "text"+one(c)+"plain", one(c) == "/")
		mustSimple(t, "content-type", "te"+one(c)+"xt/plain", false)
	}
}

func TestUnsafe(t *testing.T) {
	mustUnsafe(t, nil)
	mustUnsafe(t, nil, []api.Head{}...)
	mustUnsafe(t, nil, at("accept", "x"), at("Accept-Lang", ""), at("CONTENT-TYPE", "text/plain;x"))
	mustUnsafe(t, []string{"x"}, at("x", ""))
	mustUnsafe(t, []string{"x"}, at("X", ""))
	mustUnsafe(t, []string{"a", "b"}, at("a", ""), at("b", ""))
	mustUnsafe(t, []string{"a", "b"}, at("b", ""), at("a", ""))
	mustUnsafe(t, []string{"a", "b"}, at("B", ""), at("a", ""))
	mustUnsafe(t, []string{"a", "b"}, at("b", ""), at("A", ""))
	mustUnsafe(t, []string{"b", "content-type", "z"}, at("Z", ""), at("accept", ""), at("b", ""), at("z", ""), at("Content-Type", "x"))
	mustUnsafe(t, []string{"a"}, at("a", "1"), at("A", "2"), at("a", "3"), at("a", "1"))
	mustUnsafe(t, []string{"a", "b"}, at("a", ""), at("b", ""), at("A", ""), at("B", ""), at("a", ""))
	mustUnsafe(t, []string{"content-type"}, at("Content-Type", "text/plain"), at("content-type", "a/b"), at("CONTENT-TYPE", ""))
	mustUnsafe(t, []string{"-", "0", "9", "a", "a-", "a-b", "a0", "aa", "b"}, at("b", ""), at("aa", ""), at("A0", ""), at("a-b", ""), at("9", ""), at("a-", ""), at("A", ""), at("0", ""), at("-", ""))
	// Names that may not be are told as they are.
	mustUnsafe(t, []string{"", " ", " b", "\u00c9x", "\xff"}, at("\xff", ""), at(" b", ""), at("\u00c9X", ""), at("", ""), at(" ", ""), at("", "1"))
	mustUnsafe(t, []string{"host", "sec-x"}, at("Sec-X", ""), at("Host", "a"))
}

func TestUnsafeInAnyOrder(t *testing.T) {
	chance := rand.New(rand.NewSource(8))
	l := []api.Head{at("A", "1"), at("b", ""), at("C", "2"), at("accept", ""), at("d", ""), at("Content-Type", ""), at("a", ""), at("D", ""), at("content-type", "text/plain")}
	for range 2000 {
		chance.Shuffle(len(l), func(i, k int) { l[i], l[k] = l[k], l[i] })
		mustUnsafe(t, []string{"a", "b", "c", "content-type", "d"}, l...)
	}
}

var (
	namePattern      = regexp.MustCompile(`\A[A-Za-z0-9-]{1,12}\z`)
	valuePattern     = regexp.MustCompile(`\A([!-~]([ -~]{0,14}[!-~])?)?\z`)
	forbiddenPattern = regexp.MustCompile(`(?s)\A([Hh][Oo][Ss][Tt]|[Oo][Rr][Ii][Gg][Ii][Nn]|[Rr][Ee][Ff][Ee][Rr][Ee][Rr]|[Cc][Oo][Oo][Kk][Ii][Ee]|[Cc][Oo][Nn][Nn][Ee][Cc][Tt][Ii][Oo][Nn]|([Ii][Ff]-)?[Rr][Aa][Nn][Gg][Ee]|([Ss][Ee][Cc]|[Pp][Rr][Oo][Xx][Yy])-.*)\z`)
	plainPattern     = regexp.MustCompile(`(?s)\A[\x00- ]*[Tt][Ee][Xx][Tt]/[Pp][Ll][Aa][Ii][Nn][\x00- ]*(;.*)?\z`)
)

// lowered makes small letters of A to Z.
func lowered(s string) string {
	for c := byte('A'); c <= 'Z'; c++ {
		s = strings.ReplaceAll(s, one(int(c)), one(int(c)+32))
	}
	return s
}

func checked(l []api.Head) api.Errno {
	seen := map[string]int{}
	for _, h := range l {
		if len(l) > 2 || !namePattern.MatchString(h.Name) || !valuePattern.MatchString(h.Value) || forbiddenPattern.MatchString(h.Name) {
			return api.ErrArg
		}
		seen[lowered(h.Name)]++
	}
	if len(seen) < len(l) {
		return api.ErrThere
	}
	return api.OK
}

// checkAll holds each call against another way to its answer.
func checkAll(t *testing.T, l []api.Head) {
	t.Helper()
	first := map[string]string{}
	unsafeNames := map[string]int{}
	for i := len(l) - 1; i >= 0; i-- {
		h, name := l[i], lowered(l[i].Name)
		mustName(t, h.Name, namePattern.MatchString(h.Name))
		mustValue(t, h.Value, valuePattern.MatchString(h.Value))
		mustForbid(t, h.Name, forbiddenPattern.MatchString(h.Name))
		simple := name == "accept" || name == "accept-lang" || name == "content-type" && plainPattern.MatchString(h.Value)
		mustSimple(t, h.Name, h.Value, simple)
		if !simple {
			unsafeNames[name]++
		}
		first[name] = h.Value
	}
	mustCheck(t, checked(l), l...)
	for _, h := range l {
		mustGet(t, h.Name, first[lowered(h.Name)], l...)
		mustGet(t, lowered(h.Name), first[lowered(h.Name)], l...)
	}
	mustNotGet(t, "no such name", l...)
	var want []string
	for name := range unsafeNames {
		want = append(want, name)
	}
	slices.Sort(want)
	mustUnsafe(t, want, l...)
}

func TestManyLists(t *testing.T) {
	chance := rand.New(rand.NewSource(8))
	names := []string{"a", "A", "b", "B-c", "accept", "Accept-Lang", "content-type", "Content-Type", "host", "Range", "if-range", "sec-a", "Proxy-", "", "a b", "x:", "abcdefghijkl", "abcdefghijklm", "\xff"}
	values := []string{"", "1", "a b", " a", "a ", "text/plain", "Text/Plain ;x", "text/html", "1234567890123456", "12345678901234567", "\x1f", "~", "\x7f", "\u00e9"}
	for range 50000 {
		var l []api.Head
		for range chance.Intn(5) {
			h := at(names[chance.Intn(len(names))], values[chance.Intn(len(values))])
			if chance.Intn(4) == 0 {
				h.Name += one(chance.Intn(256))
			}
			if chance.Intn(4) == 0 {
				h.Value = one(chance.Intn(256)) + h.Value
			}
			l = append(l, h)
		}
		checkAll(t, l)
	}
}

func TestAllShortStrings(t *testing.T) {
	const letters = "aZ0- ;:\x1f~\x7f\xc3"
	var each func(s string)
	each = func(s string) {
		mustName(t, s, namePattern.MatchString(s))
		mustValue(t, s, valuePattern.MatchString(s))
		mustForbid(t, s, false)
		mustForbid(t, "Sec-"+s, true)
		if len(s) < 4 {
			for i := range len(letters) {
				each(s + letters[i:i+1])
			}
		}
	}
	each("")
}

func TestLong(t *testing.T) {
	const n = 1 << 20
	long := strings.Repeat("A", n)
	mustForbid(t, long, false)
	mustForbid(t, "PROXY-"+long, true)
	mustCheck(t, api.ErrArg, at(long, ""))
	mustCheck(t, api.ErrArg, at("a", long))
	mustGet(t, strings.ToLower(long), long, at(long[1:], ""), at(long, long))
	mustSimple(t, "content-type", strings.Repeat(" ", n)+"text/plain"+strings.Repeat(" ", n)+";"+long, true)
	mustSimple(t, "content-type", long+"text/plain", false)
	l := make([]api.Head, 0, n/8)
	for i := range cap(l) {
		l = append(l, at(fmt.Sprint("N", i%1000), "v"))
	}
	var want []string
	for i := range 1000 {
		want = append(want, fmt.Sprint("n", i))
	}
	slices.Sort(want)
	mustUnsafe(t, want, l...)
	mustNotGet(t, "n1000", l...)
}

// What is handed in stays as it was, also what lies behind its length; what is
// answered shares no memory with it, nor with an earlier answer, and the same
// argument has the same answer again.
func TestMemory(t *testing.T) {
	all := []api.Head{at("Z", "last"), at("b", "value"), at("Accept", "x"), at("A", "first"), at("z", "behind"), at("a", "behind")}
	kept := slices.Clone(all)
	l := all[:4]
	want := []string{"a", "b", "z"}
	mustUnsafe(t, want, l...)
	mustUnsafe(t, want, l...)
	mustCheck(t, api.ErrArg, l...)
	mustCheck(t, api.OK, all[:2]...)
	mustGet(t, "z", "last", l...)
	mustGet(t, "z", "last", l...)
	mustNotGet(t, "z", all[1:4]...)
	if !slices.Equal(all, kept) {
		t.Errorf("what was handed in became %q", all)
	}
	got := Unsafe(l...)
	for _, s := range got {
		for _, h := range l {
			if unsafe.StringData(s) == unsafe.StringData(h.Name) {
				t.Errorf("Unsafe answers the memory of the name %q", h.Name)
			}
		}
	}
	got[0] = "changed"
	mustUnsafe(t, want, l...)
	if v, _ := Get("b", l...); unsafe.StringData(v) == unsafe.StringData(l[1].Value) {
		t.Error("Get answers the memory of its argument")
	}
}

func FuzzAll(f *testing.F) {
	f.Add("", "", "", "")
	f.Add("a", "1", "A", "2")
	f.Add("Host", "x", "sec-", " ")
	f.Add("accept", "x", "Content-Type", " text/plain ;x")
	f.Add("abcdefghijklm", "12345678901234567", "\xff", "\x7f")
	f.Fuzz(func(t *testing.T, name, value, other, more string) {
		checkAll(t, []api.Head{at(name, value)})
		checkAll(t, []api.Head{at(name, value), at(other, more)})
		checkAll(t, []api.Head{at(name, value), at(other, more), at(name, more)})
	})
}
