package within_test

import (
	"fmt"
	"net"
	"net/netip"
	"slices"
	"strings"
	"testing"

	"chancery/api"
	"chancery/host"
	"chancery/name"
	"chancery/probe"
	"chancery/within"
)

// isBelow is what Below should answer, by labels.
func isBelow(a, b string) bool {
	x, y := strings.Split(strings.ToLower(a), "."), strings.Split(strings.ToLower(b), ".")
	return host.DNS(a) && host.DNS(b) && len(x) >= len(y) && slices.Equal(x[len(x)-len(y):], y)
}

// mayBe is what May should answer, by the chapter's words.
func mayBe(t api.Subtree) bool {
	b := t.Base
	switch t.Kind {
	case 1:
		return host.Email(b) || host.DNS(b) || b != "" && b[0] == '.' && host.DNS(b[1:])
	case 2:
		return host.DNS(b)
	case 4:
		_, e := name.Decode([]byte(b))
		return e == api.OK
	case 7:
		_, ok := prefix(b)
		return ok
	}
	return false
}

// prefix is the library's of a network, and whether there is one.
func prefix(b string) (netip.Prefix, bool) {
	address, ok := netip.AddrFromSlice([]byte(b[:len(b)/2]))
	ones, bits := net.IPMask(b[len(b)/2:]).Size()
	p := netip.PrefixFrom(address, ones)
	return p, ok && bits == address.BitLen() && p.Masked() == p
}

// liesIn tells by the chapter's words whether a name that is not wild lies in a subtree of its kind, both of which may be.
func liesIn(t api.Subtree, text string) bool {
	switch t.Kind {
	case 1:
		b, mail := strings.Split(t.Base, "@"), strings.Split(text, "@")
		switch {
		case len(b) == 2:
			return b[0] == mail[0] && strings.ToLower(b[1]) == strings.ToLower(mail[1])
		case t.Base[0] == '.':
			return isBelow(mail[1], t.Base[1:]) && len(mail[1]) > len(t.Base[1:])
		}
		return strings.ToLower(t.Base) == strings.ToLower(mail[1])
	case 2:
		return isBelow(text, t.Base)
	case 4:
		n, _ := name.Decode([]byte(text))
		b, _ := name.Decode([]byte(t.Base))
		return len(n) >= len(b) && name.Same(n[:len(b)], b)
	}
	p, _ := prefix(t.Base)
	address, _ := netip.AddrFromSlice([]byte(text))
	return p.Contains(address)
}

// standsFor are texts that a general name stands for: of a wild name hosts of several first labels, the Base's among them.
func standsFor(t api.Subtree, g api.General) []string {
	if g.Kind != 2 || !host.Wild(g.Text) {
		return []string{g.Text}
	}
	first, _, _ := strings.Cut(t.Base, ".")
	var l []string
	for _, label := range []string{first, "q", "j", "v", "q-0"} {
		if s := label + g.Text[1:]; host.Match(g.Text, s) {
			l = append(l, s)
		}
	}
	return l
}

// allIn and someIn are what All and Some should answer, by the chapter's words.
func allIn(t api.Subtree, g api.General) bool {
	return mayBe(t) && host.May(g) && t.Kind == g.Kind && !slices.ContainsFunc(standsFor(t, g), func(s string) bool { return !liesIn(t, s) })
}

func someIn(t api.Subtree, g api.General) bool {
	return mayBe(t) && host.May(g) && t.Kind == g.Kind && slices.ContainsFunc(standsFor(t, g), func(s string) bool { return liesIn(t, s) })
}

// checked is what Check should answer, by the chapter's words.
func checked(permitted, excluded []api.Subtree, g api.General) (int, api.Errno) {
	if !host.May(g) {
		return 0, api.ErrHost
	}
	for i, t := range permitted {
		if !mayBe(t) {
			return i, api.ErrTree
		}
	}
	for i, t := range excluded {
		if !mayBe(t) {
			return len(permitted) + i, api.ErrTree
		}
	}
	ofKind, in := 0, 0
	for _, t := range permitted {
		if t.Kind == g.Kind {
			ofKind++
		}
		if allIn(t, g) {
			in++
		}
	}
	if ofKind > 0 && in == 0 {
		return 0, api.ErrOut
	}
	for i, t := range excluded {
		if someIn(t, g) {
			return i, api.ErrWithin
		}
	}
	return 0, api.OK
}

// named are the bytes of a name by its text.
func named(s string) string {
	n, e1 := name.Parse(s)
	b, e2 := name.Encode(n)
	if e1 != api.OK || e2 != api.OK {
		panic("no name: " + s)
	}
	return string(b)
}

// raw are bytes by digits.
func raw(digits string) string { return string(probe.Raw(digits)) }

// Subtrees and general names of each kind, by what stands in them.
func mailTree(s string) api.Subtree { return api.Subtree{Kind: 1, Base: s} }
func hostTree(s string) api.Subtree { return api.Subtree{Kind: 2, Base: s} }
func nameTree(s string) api.Subtree { return api.Subtree{Kind: 4, Base: named(s)} }
func netTree(s string) api.Subtree  { return api.Subtree{Kind: 7, Base: raw(s)} }
func mail(s string) api.General     { return api.General{Kind: 1, Text: s} }
func dns(s string) api.General      { return api.General{Kind: 2, Text: s} }
func dn(s string) api.General       { return api.General{Kind: 4, Text: named(s)} }
func ip(s string) api.General       { return api.General{Kind: 7, Text: raw(s)} }

// each is what a function makes of each text.
func each[T any](f func(string) T, texts ...string) []T {
	var l []T
	for _, s := range texts {
		l = append(l, f(s))
	}
	return l
}

// hostNames are hosts' names that stand in several ways to each other.
func hostNames() []string {
	return []string{
		"a.b", "A.B", "a.B", "b", "B", "a", "c", "x.a.b", "X.A.b", "y.a.b", "y.x.a.b", "z.y.x.a.b", "xa.b", "x-a.b", "a.bx", "b.a", "a.a.b", "a.b.a.b", "b.b", "x.b", "x.a", "a.b.c", "c.d", "C.d", "x.c.d", "y.x.c.d", "xc.d", "d", "a1.b", "1.b", "1.a.b", "q.a.b", "k.s", "x.k.s",
		probe.LongHost(64), probe.LongHost(249), probe.LongHost(251), "x." + probe.LongHost(251), "x." + probe.LongHost(249), probe.LongHost(253), strings.Repeat("a.", 126) + "b", strings.Repeat("a.", 125) + "b", strings.Repeat("b", 63) + ".a.b",
	}
}

// noHostNames are texts that are no host's name.
func noHostNames() []string {
	return []string{
		"", ".", "..", ".a", "a.", ".a.b", "a.b.", "a..b", "..a.b", "*", "*.", "*.b", "*.a.b", "x.*.b", "*a.b", "-", "-a.b", "a-.b", "a.b-", "x.-.a.b", "1", "a.1", "10.0.0.0", "a_b", "a b", " a.b", "a.b ", "a@b", "@a.b", "a.b@", "a.b\x00", "\x00", "a.b\n",
		"\x80", "a\x80.b", "\xff", "x\xff.a.b", "a.b\xff", "\u00e9.a.b", "\u212a", "\u212a.\u017f", "x.\u212a.s", "\u017f", "a\u3002b", probe.LongHost(254), "x." + probe.LongHost(252), strings.Repeat("a.", 127) + "b", strings.Repeat("a", 64), "x." + strings.Repeat("a", 64) + ".b", strings.Repeat("a.", 1<<16) + "b", strings.Repeat(".", 1<<16),
	}
}

// nameTexts are names' texts that begin in several ways.
func nameTexts() []string {
	return []string{
		"", "C=DE", "C=US", "O=DE", "CN=DE", "C=DE,O=a", "C=DE,O=A", "C=DE,O=b", "O=a,C=DE", "O=a", "C=DE,O=a,CN=x", "C=DE,O=A,CN=X", "C=DE,O=a,CN=y", "C=DE,O=a,OU=x", "C=DE,O=a,CN=x,CN=x", "C=DE,C=DE", "O=a  b", "O=A b", "O=ab", "O=a b,CN=x", "CN=\u00e9", "CN=\u00c9", `O=a\, b`,
		strings.Repeat(",CN=a", 15)[1:], strings.Repeat(",CN=a", 16)[1:], strings.Repeat(",CN=A", 16)[1:], strings.Repeat(",CN=a", 15)[1:] + ",CN=b",
	}
}

// goodTrees are subtrees of each sort that may be.
func goodTrees() []api.Subtree {
	return slices.Concat(
		each(hostTree, hostNames()...),
		each(mailTree, hostNames()...),
		each(mailTree, "a@c.d", "A@c.d", "a@C.D", "b@c.d", "a.b@c.d", "a@x.c.d", "a@d", "a@xc.d", "_@c.d", "A@C.d", "a@a.b", "+.-@b", strings.Repeat("a", 64)+"@"+probe.LongHost(253)),
		each(mailTree, ".c.d", ".C.D", ".d", ".x.c.d", ".y.x.c.d", ".a.b", ".A.b", ".b", ".x.a.b", "."+probe.LongHost(249), "."+probe.LongHost(251), "."+probe.LongHost(253)),
		each(nameTree, nameTexts()...),
		each(netTree,
			"00000000 00000000", "0a000000 ff000000", "0a000000 ffffffff", "0a090909 ffffffff", "0a800000 ff800000", "0a000000 ff800000", "80000000 80000000", "00000000 80000000", "00000000 fe000000", "c0a80200 fffffe00", "fffffffe fffffffe", "ffffffff ffffffff", "0a090000 ffff0000", "0a090908 fffffff8", "00000000 ffffffff", "61626364 ffffffff",
			strings.Repeat("00", 32), "0a"+strings.Repeat("00", 15)+"ff"+strings.Repeat("00", 15), strings.Repeat("ff", 32), "20010db8"+strings.Repeat("00", 12)+"ffffffff"+strings.Repeat("00", 12), "20010db8"+strings.Repeat("00", 11)+"80"+strings.Repeat("ff", 15)+"80", "00000000000000000000ffff0a000000"+strings.Repeat("ff", 13)+"000000", strings.Repeat("00", 16)+strings.Repeat("ff", 15)+"fe", "61"+strings.Repeat("62", 15)+strings.Repeat("ff", 16), "80"+strings.Repeat("00", 15)+"80"+strings.Repeat("00", 15)),
	)
}

// noNets are bytes that are no network's, by digits.
func noNets() []string {
	l := []string{
		"", "00", "0000", "00000000", "0a000000ff", "0a000000ff0000", "0a000000ff000000ff", "0a000000ff00000000", "0a0000ff0000", "0a000000ffff0000ffff", // other lengths
		strings.Repeat("00", 7), strings.Repeat("00", 9), strings.Repeat("ff", 7), strings.Repeat("ff", 9), strings.Repeat("00", 16), strings.Repeat("00", 12), strings.Repeat("00", 24), strings.Repeat("00", 31), strings.Repeat("00", 33), strings.Repeat("ff", 31), strings.Repeat("ff", 33), strings.Repeat("ff", 64), strings.Repeat("00", 256+8),
		"0a000001 ff000000", "0a800000 ff000000", "0b000000 fe000000", "00000001 00000000", "80000000 00000000", "ffffffff fffffffe", "0a010000 ff000000", // a 1 in the address where the mask has 0
		"00000000 ff00ff00", "00000000 00ff0000", "00000000 000000ff", "00000000 00000001", "00000000 7fffffff", "00000000 fffffffd", "00000000 ff7fffff", "00000000 feff0000", "00000000 a0000000", "00000000 ffffff7f", "00000000 fffeff00", "00000000 55555555", "0a000000 ff0000ff", // a 1 behind a 0
	}
	for _, wrong := range []string{"01 00", "00 01", "00 7f"} {
		address, mask, _ := strings.Cut(wrong, " ")
		l = append(l, strings.Repeat("00", 15)+address+strings.Repeat("00", 15)+mask, address+strings.Repeat("00", 15)+mask+strings.Repeat("00", 15), strings.Repeat("00", 8)+address+strings.Repeat("00", 7)+strings.Repeat("00", 8)+mask+strings.Repeat("00", 7))
	}
	return l
}

// noNames are bytes that are no name's.
func noNames() []string {
	right := named("C=DE")
	l := []string{"", "\x30", "\x30\x01", "\x31\x00", "\x30\x00\x00", "\x30\x81\x00", "\x30\x80\x00\x00", "\x00", "C=DE", "CN=a", "a.b", "a@b", ".a.b", "*.a.b", "abcd", right + "\x00", right + right, "\x31" + right[1:], strings.Replace(right, "DE", "de", 1), strings.Replace(right, "DE", "D\xff", 1), strings.Replace(right, "\x13", "\x0c", 1), raw("0a000000 ff000000"), strings.Repeat("\x30", 1<<16), "\x80", "\xff\xff"}
	for end := range right {
		l = append(l, right[:end])
	}
	seventeen := strings.Repeat(named("CN=a")[2:], 17)
	return append(l, "\x30\x81"+string([]byte{byte(len(seventeen))})+seventeen)
}

// badTrees are subtrees of each sort that may not be.
func badTrees() []api.Subtree {
	var l []api.Subtree
	for _, k := range probe.NoKinds() {
		for _, b := range []string{"", "a", "a.b", ".a.b", "a@b", "\x30\x00", named("C=DE"), raw("0a000000 ff000000"), strings.Repeat("\xff", 32)} {
			l = append(l, api.Subtree{Kind: k, Base: b})
		}
	}
	l = append(l, each(hostTree, noHostNames()...)...)
	l = append(l, each(hostTree, raw("0a000000 ff000000"), named("C=DE"), "a@c.d", ".c.d", "\x30\x00")...)
	for _, s := range noHostNames() {
		if s != "a@b" && s != ".a" && s != ".a.b" {
			l = append(l, mailTree(s))
		}
		l = append(l, mailTree("."+s), mailTree("a@"+s))
	}
	l = append(l, each(mailTree, ".", "..", "..a", "..a.b", ".a.", ".a..b", ".-", ".*.a.b", "*.a.b", "*@a.b", "@", "a@", "@a", ".@", ".@a", ".a@b", "a.@b", "a..b@c", ".a@", "a@.b", "a@.a.b", "a@b@c", "a@@b", "@.a.b", ".@a.b", ".1", ".a.1", "a@1", "a b@c", "a\x80@c", "\xff@c", "a@c\xff", ".\xff", ".c\x80.d", raw("0a000000 ff000000"), "\x30\x00", strings.Repeat("a", 65)+"@c", "."+probe.LongHost(254), "a@"+probe.LongHost(254))...)
	for _, b := range noNames() {
		l = append(l, api.Subtree{Kind: 4, Base: b})
	}
	l = append(l, each(netTree, noNets()...)...)
	for _, b := range []string{"a", "a.b", "abcd", "10.0.0.0", "10.0.0.0/8", "0a000000ff000000", "a@b", ".a.b", "\x30\x00", named("C=DE"), strings.Repeat("a", 32)} {
		l = append(l, api.Subtree{Kind: 7, Base: b})
	}
	return l
}

// goodNames are general names of each sort that may be.
func goodNames() []api.General {
	l := slices.Concat(
		each(dns, hostNames()...),
		each(dns, "*.a.b", "*.A.B", "*.x.a.b", "*.X.a.B", "*.y.x.a.b", "*.a.a.b", "*.b.b", "*.xa.b", "*.b.a", "*.a.b.c", "*.c.d", "*.x.c.d", "*.a.bx", "*.1.b", "*.k.s", "*."+probe.LongHost(249), "*."+probe.LongHost(251), "*."+strings.Repeat("a.", 125)+"b", "*."+strings.Repeat("b", 63)+".a.b"),
		each(mail, "a@c.d", "A@c.d", "a@C.d", "b@c.d", "a.b@c.d", "a@x.c.d", "a@y.x.c.d", "a@xc.d", "a@d", "A@D", "a@c", "a@a.b", "x@a.b", "x@x.a.b", "_@c.d", "+.-@b", strings.Repeat("a", 64)+"@"+probe.LongHost(253), "a@"+probe.LongHost(249), "a@"+probe.LongHost(251), "a@x."+probe.LongHost(251), "a@x."+probe.LongHost(249)),
		each(dn, nameTexts()...),
		each(ip,
			"00000000", "0a000000", "0a090909", "0a7fffff", "0a800000", "0affffff", "0b000000", "09ffffff", "7fffffff", "80000000", "ffffffff", "fffffffe", "01ffffff", "02000000", "c0a80200", "c0a803ff", "c0a80400", "0a09ffff", "0a0a0000", "0a090908", "0a09090f", "0a090910", "61626364", "00000001",
			strings.Repeat("00", 16), strings.Repeat("00", 15)+"01", strings.Repeat("00", 15)+"02", strings.Repeat("ff", 16), "7f"+strings.Repeat("ff", 15), "80"+strings.Repeat("00", 15), "0a"+strings.Repeat("ff", 15), "0a"+strings.Repeat("00", 15), "0b"+strings.Repeat("00", 15), "20010db8"+strings.Repeat("00", 12), "20010db8"+strings.Repeat("00", 11)+"80", "20010db8"+strings.Repeat("00", 11)+"ff", "20010db8"+strings.Repeat("00", 11)+"7f", "20010db9"+strings.Repeat("00", 12), "00000000000000000000ffff0a010203", "00000000000000000000ffff0b010203", "61"+strings.Repeat("62", 15)),
	)
	return l
}

// badNames are general names of each sort that may not be.
func badNames() []api.General {
	var l []api.General
	for _, k := range probe.NoKinds() {
		for _, s := range []string{"", "a", "a.b", "*.a.b", "a@b", "abcd", "\x30\x00", named("C=DE")} {
			l = append(l, api.General{Kind: k, Text: s})
		}
	}
	for _, s := range noHostNames() {
		if s != "*.a.b" {
			l = append(l, dns(s))
		}
		l = append(l, mail("a@"+s), dns("*."+s))
	}
	l = append(l, each(mail, "", "a", "a.b", ".a.b", "*.a.b", "@", "@a.b", "a@", ".a@c.d", "a.@c.d", "a@b@c", strings.Repeat("a", 65)+"@c.d", "\x80@c.d")...)
	l = append(l, each(dns, "*.a", "*.*.a.b", "a@c.d", "*."+probe.LongHost(252), "**.a.b")...)
	for _, b := range noNames() {
		l = append(l, api.General{Kind: 4, Text: b})
	}
	return append(l, each(ip, "", "0a", "0a0000", "0a00000000", "0a000000ff000000", strings.Repeat("00", 15), strings.Repeat("00", 17), strings.Repeat("ff", 32))...)
}

func showTree(t api.Subtree) string { return fmt.Sprintf("{%d %.80q}", t.Kind, t.Base) }
func show(g api.General) string     { return fmt.Sprintf("{%d %.80q}", g.Kind, g.Text) }

func showTrees(l []api.Subtree) string {
	var texts []string
	for _, t := range l {
		texts = append(texts, showTree(t))
	}
	return strings.Join(texts, " ")
}

// stands fails unless All and Some answer this.
func stands(t *testing.T, tree api.Subtree, g api.General, all, some bool) {
	t.Helper()
	if a, s := within.All(tree, g), within.Some(tree, g); a != all || s != some {
		t.Fatalf("%s in %s: All %t, Some %t; want %t, %t", show(g), showTree(tree), a, s, all, some)
	}
}

// asWords fails unless All and Some answer as the chapter's words do; it tells what.
func asWords(t *testing.T, tree api.Subtree, g api.General) (all, some bool) {
	t.Helper()
	all, some = allIn(tree, g), someIn(tree, g)
	stands(t, tree, g, all, some)
	return all, some
}

// checks fails unless Check answers this.
func checks(t *testing.T, permitted, excluded []api.Subtree, g api.General, place int, wrong api.Errno) {
	t.Helper()
	if at, e := within.Check(permitted, excluded, g); at != place || e != wrong {
		t.Fatalf("Check(%s; %s; %s): %d, error %d; want %d, %d", showTrees(permitted), showTrees(excluded), show(g), at, e, place, wrong)
	}
}

// rows fails unless Row answers this.
func rows(t *testing.T, permitted, excluded []api.Subtree, l []api.General, i, place int, wrong api.Errno) {
	t.Helper()
	if n, at, e := within.Row(permitted, excluded, l...); n != i || at != place || e != wrong {
		t.Fatalf("Row(%s; %s; %d names): %d, %d, error %d; want %d, %d, %d", showTrees(permitted), showTrees(excluded), len(l), n, at, e, i, place, wrong)
	}
}
