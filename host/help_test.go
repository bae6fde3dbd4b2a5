package host_test

import (
	"encoding/hex"
	"fmt"
	"regexp"
	"slices"
	"strings"
	"testing"

	"chancery/api"
	"chancery/host"
	"chancery/name"
	"chancery/probe"
)

// The chapter's words, as expressions.
var (
	labelForm  = regexp.MustCompile(`\A[A-Za-z0-9](?:[A-Za-z0-9-]{0,61}[A-Za-z0-9])?\z`)
	numberForm = regexp.MustCompile(`\A[0-9]+\z`)
	localForm  = regexp.MustCompile(`\A[A-Za-z0-9_+-]+(?:\.[A-Za-z0-9_+-]+)*\z`)
)

// isDNS, isWild and isEmail are the chapter's words the other way.
func isDNS(s string) bool {
	labels := strings.Split(s, ".")
	for _, l := range labels {
		if !labelForm.MatchString(l) {
			return false
		}
	}
	return len(s) <= 253 && !numberForm.MatchString(labels[len(labels)-1])
}

func isWild(s string) bool {
	return len(s) <= 253 && strings.HasPrefix(s, "*.") && isDNS(s[2:]) && strings.Count(s, ".") > 1
}

func isEmail(s string) bool {
	parts := strings.Split(s, "@")
	return len(parts) == 2 && len(parts[0]) <= 64 && localForm.MatchString(parts[0]) && isDNS(parts[1])
}

// mayBe is what May should answer, by the chapter's words.
func mayBe(g api.General) bool {
	switch g.Kind {
	case 1:
		return isEmail(g.Text)
	case 2:
		return isDNS(g.Text) || isWild(g.Text)
	case 4:
		_, e := name.Decode([]byte(g.Text))
		return e == api.OK
	case 7:
		return len(g.Text) == 4 || len(g.Text) == 16
	}
	return false
}

// matches is what Match should answer, by the chapter's words.
func matches(pattern, s string) bool {
	p, l := strings.Split(strings.ToLower(pattern), "."), strings.Split(strings.ToLower(s), ".")
	switch {
	case !isDNS(s):
		return false
	case isDNS(pattern):
		return slices.Equal(p, l)
	case isWild(pattern):
		return len(p) == len(l) && slices.Equal(p[1:], l[1:])
	}
	return false
}

// textOf is the text of a general name that may be.
func textOf(t *testing.T, g api.General) string {
	t.Helper()
	switch g.Kind {
	case 1:
		return "email:" + g.Text
	case 2:
		return "dns:" + g.Text
	case 7:
		return "ip:" + hex.EncodeToString([]byte(g.Text))
	}
	n, e1 := name.Decode([]byte(g.Text))
	s, e2 := name.Text(n)
	if g.Kind != 4 || e1 != api.OK || e2 != api.OK {
		t.Fatalf("%s: no text, errors %d and %d", show(g), e1, e2)
	}
	return "name:" + s
}

// generalOf is the general name whose text s is, and whether there is one.
func generalOf(s string) (api.General, bool) {
	var g api.General
	switch word, rest, _ := strings.Cut(s, ":"); {
	case strings.HasPrefix(s, "email:"):
		g = api.General{Kind: 1, Text: rest}
	case strings.HasPrefix(s, "dns:"):
		g = api.General{Kind: 2, Text: rest}
	case strings.HasPrefix(s, "ip:"):
		b, err := hex.DecodeString(rest)
		if err != nil || strings.ContainsAny(rest, "ABCDEF") {
			return api.General{}, false
		}
		g = api.General{Kind: 7, Text: string(b)}
	case word == "name" && len(s) > len(word):
		n, e := name.Parse(rest)
		b, _ := name.Encode(n)
		if e != api.OK {
			return api.General{}, false
		}
		g = api.General{Kind: 4, Text: string(b)}
	}
	if !mayBe(g) {
		return api.General{}, false
	}
	return g, true
}

// known are general names with their texts, written out.
var known = []struct {
	g api.General
	s string
}{
	{api.General{Kind: 1, Text: "a@c"}, "email:a@c"},
	{api.General{Kind: 1, Text: "a.b@c"}, "email:a.b@c"},
	{api.General{Kind: 1, Text: "A_b+1.-@C.d-e"}, "email:A_b+1.-@C.d-e"},
	{api.General{Kind: 1, Text: "-@x"}, "email:-@x"},
	{api.General{Kind: 1, Text: strings.Repeat("z", 64) + "@" + probe.LongHost(253)}, "email:" + strings.Repeat("z", 64) + "@" + probe.LongHost(253)},
	{api.General{Kind: 2, Text: "a"}, "dns:a"},
	{api.General{Kind: 2, Text: "a.b"}, "dns:a.b"},
	{api.General{Kind: 2, Text: "Www.Example.COM"}, "dns:Www.Example.COM"},
	{api.General{Kind: 2, Text: "1.2.3.4x"}, "dns:1.2.3.4x"},
	{api.General{Kind: 2, Text: "*.a.b"}, "dns:*.a.b"},
	{api.General{Kind: 2, Text: "dns.name"}, "dns:dns.name"},
	{api.General{Kind: 2, Text: probe.LongHost(253)}, "dns:" + probe.LongHost(253)},
	{api.General{Kind: 2, Text: "*." + probe.LongHost(251)}, "dns:*." + probe.LongHost(251)},
	{api.General{Kind: 4, Text: "\x30\x00"}, "name:"},
	{api.General{Kind: 4, Text: "\x30\x0d\x31\x0b\x30\x09\x06\x03\x55\x04\x06\x13\x02DE"}, "name:C=DE"},
	{api.General{Kind: 4, Text: "\x30\x0f\x31\x0d\x30\x0b\x06\x03\x55\x04\x0a\x13\x04a, b"}, `name:O=a\, b`},
	{api.General{Kind: 4, Text: "\x30\x11\x31\x0f\x30\x0d\x06\x03\x55\x04\x03\x13\x06name:a"}, "name:CN=name:a"},
	{api.General{Kind: 4, Text: "\x30\x0d\x31\x0b\x30\x09\x06\x03\x55\x04\x03\x0c\x02\xc3\xa9"}, "name:CN=\u00e9"},
	{api.General{Kind: 7, Text: "\x0a\x00\x00\xff"}, "ip:0a0000ff"},
	{api.General{Kind: 7, Text: "\x00\x00\x00\x00"}, "ip:00000000"},
	{api.General{Kind: 7, Text: "\xff\xff\xff\xff"}, "ip:ffffffff"},
	{api.General{Kind: 7, Text: "a.b@"}, "ip:612e6240"},
	{api.General{Kind: 7, Text: "\x01\x23\x45\x67\x89\xab\xcd\xef\xfe\xdc\xba\x98\x76\x54\x32\x10"}, "ip:0123456789abcdeffedcba9876543210"},
	{api.General{Kind: 7, Text: strings.Repeat("\x00", 15) + "\x01"}, "ip:00000000000000000000000000000001"},
}

// hosts are hosts' names of each sort.
func hosts() []string {
	l := []string{
		"a", "Z", "z", "A", "ab", "a1", "1a", "a-b", "a--b", "xn--a", "a-1", "1-a", "0x1f", "1-1", "0-0", // of one label
		"a.b", "1.a", "1.2.a", "1.2.3.a", "1.2.3.4a", "1.2.3.a4", "1.2.3.4-4", "a.1a", "a.1.b", "0.0.0.0.z", "a.b.c", "A.b.C.d", "www.example.com", "WWW.Example.Com", "a-b.c-d", "k.s", "K.S",
		"a.a.a.a.a.a.a.a.a.a.a.a.a.a.a.a.a.a.a.a", "com", "localhost", "b.a", "b.a.b", "x.a.b", "X.A.b", "x.y.a.b", "xa.b", "a.bx", "y.a.b", "xy.a.b", "a.b.a.b", "aa.b",
	}
	for _, n := range []int{1, 2, 61, 62, 63} {
		l = append(l, strings.Repeat("a", n), strings.Repeat("9", n-1)+"z", strings.Repeat("a", n)+".b", "a."+strings.Repeat("b", n)+".c", strings.Repeat("7", n)+".c")
	}
	l = append(l, "a"+strings.Repeat("-", 61)+"b", "a."+"1"+strings.Repeat("-", 61)+"2")
	for _, n := range []int{65, 66, 127, 128, 129, 190, 251, 252, 253} {
		l = append(l, probe.LongHost(n))
	}
	return append(l, strings.Repeat("a.", 126)+"b", strings.Repeat("1.", 126)+"b", strings.Repeat("1.", 125)+"bc")
}

// noHosts are texts that are no host's name.
func noHosts() []string {
	l := []string{
		"", ".", "..", "...", "a.", ".a", "a..b", "..a", "a..", "a.b.", ".a.b", "a.b..c", // dots
		"-", "--", "-a", "a-", "-a-", "-a.b", "a-.b", "a.-b", "a.b-", "a.-.b", "a.--.b", "-.a", "a.-", "1-", "-1", // dashes
		"1", "0", "12", "a.1", "a.b.12", "1.2.3.4", "10.0.0.1", "a.0", "1.1", "a-b.9", strings.Repeat("1", 63), "a." + strings.Repeat("5", 63), // digits alone
		" ", "a ", " a", "a b", "a. b", "a .b", "a\tb", "a\n", "\na", "a\x00", "\x00", "a\r\n", // blanks
		"*", "*.", "*.a", "*.a.b", "a.*", "a.*.b", "*a.b", "a*.b", "*.*.a.b", "**", // stars
		"a_b", "_a", "a_", "a+b", "a@b", "@", "a/b", "a:b", "a,b", "a;b", "a\\b", "a=b", "[a]", "{a}", "a`b", "/.a", ":.a", "a.b:80", "%61", "a'b", "\"a\"", "a!b", "#", "$", "&", "(a)", "<a>", "?", "^", "|", "~",
		"\x7f", "\x80", "a\x80", "\xff", "a\xffb", "\u00e9", "caf\u00e9", "a\u212a", "\u212a", "\u017f", "a\u3002b", "\uff41", "\u0131", "a.\u0661", "a\xc1", "\xe1",
	}
	for _, n := range []int{64, 65, 126, 127, 128, 252, 253, 254} {
		one := strings.Repeat("a", n)
		l = append(l, one, one+".b", "a."+one, "a."+one+".b", "1"+one[1:])
	}
	for _, n := range []int{254, 255, 256, 257, 300, 317, 318, 320, 509, 510, 4096, 1 << 16, 1<<16 + 5, 1 << 20} {
		l = append(l, probe.LongHost(n))
	}
	return append(l, strings.Repeat("a.", 127), strings.Repeat("a.", 127)+"b", strings.Repeat("a.", 126)+"bc", strings.Repeat("a.", 1<<19)+"b", strings.Repeat(".", 1<<20), strings.Repeat("-", 1<<20))
}

// wilds are wild names of each sort.
func wilds() []string {
	l := []string{"*.a.b", "*.A.B", "*.1.a", "*.1.2.a", "*.a.b.c", "*.x.y.a.b", "*.a-b.c", "*.example.com", "*.Example.COM", "*.b.a", "*.xn--a.b", "*.k.s"}
	for _, n := range []int{65, 66, 128, 129, 249, 250, 251} {
		l = append(l, "*."+probe.LongHost(n))
	}
	return append(l, "*."+strings.Repeat("a.", 125)+"b", "*."+strings.Repeat("a", 63)+".b")
}

// noWilds are texts that are no wild name.
func noWilds() []string {
	l := []string{
		"*", "*.", ".*", "*.*", "*..", "*.a", "*.abc", "*.com", "*." + strings.Repeat("a", 63), "*..a", "*.a.", "*.a..b", "*..a.b", ".*.a.b", " *.a.b", "*.a.b ", // no dot behind the first
		"*.*.a.b", "**.a.b", "*a.b.c", "a*.b.c", "a.*.b.c", "*.a.*", "*.*.*", "*.a*.b", "*.a.b*", "*.a.b.*", "x*.a.b", "*x.a.b", "*-.a.b", // a * elsewhere
		"*.1", "*.a.1", "*.1.2", "*.-a.b", "*.a-.b", "*.a.b-", "*.a_b.c", "*.a@b.c", "*.a.b\x80", "*.\u00e9.b", "*,a.b", "*a.b", "?.a.b", "+.a.b", "\u2217.a.b", "\uff0a.a.b", "\xaa.a.b",
		"*." + strings.Repeat("a", 64) + ".b", "*.a." + strings.Repeat("1", 63),
	}
	for _, n := range []int{252, 253, 254, 255, 256, 300, 509, 1 << 16, 1 << 20} {
		l = append(l, "*."+probe.LongHost(n))
	}
	return append(l, "*."+strings.Repeat("a.", 126)+"b", "*."+strings.Repeat("a.", 125)+"bc", strings.Repeat("*.", 1<<19)+"a.b", strings.Repeat("*", 1<<20))
}

// locals are local parts of each sort.
func locals() []string {
	l := []string{
		"a", "Z", "0", "9", "_", "+", "-", "a.b", "a.b.c", "A.B", "1.2", "1.2.3.4", "_.+.-", "-a-", "--", "++", "__", "a+b", "a_b", "a-b", "-.-", "_a", "a_", "+a", "a+", "John.Doe+tag-1_x", "0.a",
	}
	for _, n := range []int{2, 62, 63, 64} {
		l = append(l, strings.Repeat("a", n), strings.Repeat("-", n), strings.Repeat("1", n))
	}
	return append(l, "a."+strings.Repeat("b", 62), strings.Repeat("a", 62)+".b", strings.Repeat("a.", 31)+"bc", strings.Repeat("a.", 31)+"b")
}

// noLocals are texts that are no local part.
func noLocals() []string {
	l := []string{
		"", ".", "..", ".a", "a.", "..a", "a..", "a..b", "a.b..c", ".a.", "a...b", ".-", "_.", "a.b.", ".a.b", // dots
		" ", "a ", " a", "a b", "a\tb", "a\n", "\x00", "a\x00", // blanks
		"a*b", "*", "a!b", "a#b", "a$b", "a%b", "a&b", "a'b", "a/b", "a=b", "a?b", "a^b", "a`b", "a{b", "a|b", "a}b", "a~b", "\"a\"", "a,b", "a:b", "a;b", "a<b", "a>b", "a(b", "a)b", "a[b", "a\\b", "a]b",
		"\x7f", "\x80", "a\xff", "\u00e9", "\u212a", "a\xc1b", "\xdf", "\xad", "\xae", "\xab", "a\xaeb", // from 80 to the base 16 on
	}
	for _, n := range []int{65, 66, 127, 128, 129, 255, 256, 257, 320, 1 << 16, 1 << 20} {
		l = append(l, strings.Repeat("a", n))
	}
	return append(l, "a."+strings.Repeat("b", 63), strings.Repeat("a.", 32)+"b", strings.Repeat("a.", 32), "."+strings.Repeat("a", 63), strings.Repeat("a", 63)+".", strings.Repeat("a", 64)+".", strings.Repeat(".", 64))
}

// emails are mail addresses of each sort.
func emails() []string {
	var l []string
	for _, local := range locals() {
		l = append(l, local+"@c", local+"@c.d")
	}
	for _, h := range hosts() {
		l = append(l, "a@"+h, "a.b@"+h, strings.Repeat("a", 64)+"@"+h)
	}
	return l
}

// noEmails are texts that are no mail address.
func noEmails() []string {
	l := []string{"", "a", "a.b", "@", "@@", "a@", "@a", "a@@b", "a@b@c", "a@b@", "@a@b", "@@a", "a@ b", "a @b", "a@b ", "a@[1.2.3.4]", "a@1.2.3.4", "a@c.1", "a@*.c.d", "a@*.c", "<a@b>", "mailto:a@b", "email:a@b", "a\uff20b", "a\x40\x00", "a\xc0b"}
	for _, local := range noLocals() {
		l = append(l, local+"@c", local+"@c.d", local)
	}
	for _, h := range noHosts() {
		l = append(l, "a@"+h, "@"+h)
	}
	return append(l, locals()...)
}

// addresses are network addresses of each sort.
func addresses() []string {
	l := []string{"abcd", "....", "a@b.", "*.a.", "0a0b", "::::", "\u00e9\u00e9", "\x00\x00\x00\x00", "\xff\xff\xff\xff", "\x7f\x00\x00\x01", strings.Repeat("\x00", 16), strings.Repeat("\xff", 16), "0123456789abcdef"}
	for x := range 256 {
		l = append(l, string([]byte{1, byte(x), 2, 3}), string([]byte{byte(x), 0, 0, byte(x)}), strings.Repeat(string([]byte{byte(x)}), 16), strings.Repeat("\x80", 15)+string([]byte{byte(x)}))
	}
	return l
}

// nameBytes are the bytes of a name by its text.
func nameBytes(t *testing.T, s string) string {
	t.Helper()
	n, e1 := name.Parse(s)
	b, e2 := name.Encode(n)
	if e1 != api.OK || e2 != api.OK {
		t.Fatalf("the name %q: errors %d and %d", s, e1, e2)
	}
	return string(b)
}

// nameTexts are names' texts of each sort.
func nameTexts() []string {
	l := []string{"", "C=DE", "CN=a", `C=DE,O=a\, b`, `CN=\\`, `CN=\\\,`, "CN=:", "CN=name:", "CN=ip:00", "CN==", "CN=a:b:c", "CN= ", "OU=a@b,L=Ulm,ST=BW,SN=0-9", "CN=\u00e9\u20ac", "CN=\x00", "CN=A  b", "CN=a b"}
	for _, count := range []int{2, 15, 16} {
		l = append(l, strings.Repeat(",CN=a", count)[1:], strings.Repeat(",O="+strings.Repeat("_", 64), count)[1:])
	}
	return append(l, "CN="+strings.Repeat(`\,`, 64))
}

// noNameTexts are texts that are no name's.
func noNameTexts() []string {
	return []string{"a", "C=de", "C=DE,", ",C=DE", "C=DE,,O=a", "X=a", "CN=", "cn=a", " CN=a", `CN=\a`, `CN=a\`, "CN=\xff", "CN=a,b", " ", ",", "=", `\`, "\x30\x00", "3000", "CN=" + strings.Repeat("a", 65), strings.Repeat(",CN=a", 17)[1:], strings.Repeat("CN=a,", 1<<16), strings.Repeat("a", 1<<20)}
}

// noNames are bytes that are no name's.
func noNames(t *testing.T) []string {
	t.Helper()
	right := nameBytes(t, "C=DE")
	l := []string{
		"", "\x30", "\x31\x00", "\x30\x01", "\x30\x00\x00", "\x30\x80\x00\x00", "\x30\x81\x00", "\x00", "\x05\x00", "C=DE", "CN=a", "a", "a.b", "a@b", "abcd",
		right + "\x00", "\x00" + right, right + right, right[1:], right[:len(right)-1], "\x31" + right[1:], strings.Replace(right, "DE", "de", 1), strings.Replace(right, "DE", "D\xff", 1), strings.Replace(right, "\x13", "\x0c", 1), strings.Replace(right, "\x04\x06", "\x04\x04", 1),
		"\x30\x0c\x31\x0a\x30\x08\x06\x03\x55\x04\x03\x0c\x01a", strings.Repeat("\x30", 1<<16), "\x1f\x00", "\xff\xff",
	}
	for end := range right {
		l = append(l, right[:end])
	}
	seventeen := strings.Repeat("\x31\x0a\x30\x08\x06\x03\x55\x04\x03\x13\x01a", 17)
	return append(l, "\x30\x81"+string([]byte{byte(len(seventeen))})+seventeen)
}

// goods are general names of each sort that may be.
func goods(t *testing.T) []api.General {
	t.Helper()
	var l []api.General
	for _, k := range known {
		l = append(l, k.g)
	}
	add := func(kind int, texts ...string) {
		for _, s := range texts {
			l = append(l, api.General{Kind: kind, Text: s})
		}
	}
	add(1, emails()...)
	add(2, hosts()...)
	add(2, wilds()...)
	add(7, addresses()...)
	for _, s := range nameTexts() {
		add(4, nameBytes(t, s))
	}
	return l
}

// wrongs are general names of each sort that may not be.
func wrongs(t *testing.T) []api.General {
	t.Helper()
	var l []api.General
	add := func(kind int, texts ...string) {
		for _, s := range texts {
			l = append(l, api.General{Kind: kind, Text: s})
		}
	}
	for _, k := range probe.NoKinds() {
		add(k, "", "a", "a.b", "*.a.b", "a@b", "abcd", "\x30\x00", strings.Repeat("a", 16))
	}
	add(1, noEmails()...)
	add(1, wilds()...)
	for _, s := range noHosts() {
		if !isWild(s) {
			add(2, s)
		}
	}
	for _, s := range noWilds() {
		if !isDNS(s) {
			add(2, s)
		}
	}
	add(2, emails()...)
	add(4, noNames(t)...)
	for _, n := range []int{0, 1, 2, 3, 5, 6, 7, 8, 15, 17, 20, 31, 32, 33, 64, 260, 272, 1<<16 + 4, 1<<16 + 16, 1 << 20} {
		add(7, strings.Repeat("\x00", n), strings.Repeat("a", n), strings.Repeat("\xff", n))
	}
	add(7, "10.0.0.1", "::1", "0a0000ff0", "0a0000ff")
	return l
}

// show is a general name, to be read.
func show(g api.General) string { return fmt.Sprintf("{%d %.300q}", g.Kind, g.Text) }

// takes fails unless a general name may be, and has this text, which is read as it.
func takes(t *testing.T, g api.General, s string) {
	t.Helper()
	if !host.May(g) {
		t.Fatalf("May(%s): false", show(g))
	}
	if got, e := host.Show(g); e != api.OK || got != s {
		t.Fatalf("Show(%s): %q, error %d; want %q", show(g), got, e, s)
	}
	if got, e := host.Parse(s); e != api.OK || got != g {
		t.Fatalf("Parse(%q): %s, error %d; want %s", s, show(got), e, show(g))
	}
}

// refuses fails unless a general name may not be.
func refuses(t *testing.T, g api.General) {
	t.Helper()
	if host.May(g) {
		t.Fatalf("May(%s): true", show(g))
	}
	if s, e := host.Show(g); e != api.ErrHost || s != "" {
		t.Fatalf("Show(%s): %q, error %d", show(g), s, e)
	}
}

// noText fails unless Parse says that it is no general name's, and else nothing.
func noText(t *testing.T, s string) {
	t.Helper()
	if g, e := host.Parse(s); e != api.ErrHost || g != (api.General{}) {
		t.Errorf("Parse(%.300q): %s, error %d", s, show(g), e)
	}
}

// asWords fails unless all that asks about a text alone answers as the chapter's words do.
func asWords(t *testing.T, s string) {
	t.Helper()
	for _, c := range []struct {
		what      string
		got, want bool
	}{
		{"DNS", host.DNS(s), isDNS(s)},
		{"Wild", host.Wild(s), isWild(s)},
		{"Email", host.Email(s), isEmail(s)},
		{"IP", host.IP(s), len(s) == 4 || len(s) == 16},
	} {
		if c.got != c.want {
			t.Fatalf("%s(%.300q): %t", c.what, s, c.got)
		}
	}
}

// asText fails unless Parse answers as the chapter's words do; it tells whether the text is a general name's.
func asText(t *testing.T, s string) bool {
	t.Helper()
	want, ok := generalOf(s)
	wrong := api.OK
	if !ok {
		wrong = api.ErrHost
	}
	if g, e := host.Parse(s); e != wrong || g != want {
		t.Fatalf("Parse(%.300q): %s, error %d; want %s, error %d", s, show(g), e, show(want), wrong)
	}
	return ok
}
