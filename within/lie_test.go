package within_test

import (
	"strings"
	"testing"

	"chancery/api"
	"chancery/probe"
	"chancery/within"
)

// P14.2: the chapter's examples.
func TestLieExamples(t *testing.T) {
	d := hostTree("a.b")
	for s, want := range map[string]bool{"a.B": true, "x.a.b": true, "xa.b": false, "*.a.b": true} {
		stands(t, d, dns(s), want, want)
	}
	stands(t, hostTree("x.a.b"), dns("*.a.b"), false, true)
	stands(t, mailTree("c.d"), mail("a@c.d"), true, true)
	stands(t, mailTree(".c.d"), mail("a@x.c.d"), true, true)
	stands(t, mailTree(".c.d"), mail("a@c.d"), false, false)
	stands(t, mailTree("A@c.d"), mail("a@c.d"), false, false)
	stands(t, netTree("0a000000 ff000000"), ip("0a090909"), true, true)
}

// P14.2: each subtree of each sort against each general name, those that may not be among them.
func TestLieAll(t *testing.T) {
	good, bad := goodTrees(), badTrees()
	var alls, somes, apart int
	for _, g := range goodNames() {
		for _, tree := range good {
			switch all, some := asWords(t, tree, g); {
			case all:
				alls++
			case some:
				somes++
			default:
				apart++
			}
		}
		for _, tree := range bad {
			stands(t, tree, g, false, false)
		}
	}
	if alls < 500 || somes < 10 || apart < 5000 {
		t.Errorf("only %d, %d and %d", alls, somes, apart)
	}
	for _, g := range badNames() {
		for _, tree := range good {
			stands(t, tree, g, false, false)
		}
		stands(t, api.Subtree{Kind: g.Kind, Base: g.Text}, g, false, false)
	}
}

// P14.2: hosts' names, and wild names, against Bases.
func TestLieHosts(t *testing.T) {
	for _, c := range []struct {
		base, text string
		all, some  bool
	}{
		{"a.b", "a.b", true, true}, {"A.b", "a.B", true, true}, {"a.b", "y.x.a.b", true, true}, {"b", "a.b", true, true}, {"b", "b", true, true}, {"a.b", "b", false, false}, {"a.b", "xa.b", false, false}, {"a.b", "a.b.c", false, false}, {"a.b", "c.d", false, false}, {"x.a.b", "a.b", false, false}, {"x.a.b", "y.a.b", false, false},
		{"a.b", "*.a.b", true, true}, {"A.B", "*.a.b", true, true}, {"a.b", "*.x.a.b", true, true}, {"a.b", "*.Y.X.A.B", true, true}, {"b", "*.a.b", true, true}, {"B", "*.a.b", true, true}, {"b", "*.x.a.b", true, true}, // what stands behind the *. is below Base
		{"x.a.b", "*.a.b", false, true}, {"X.A.B", "*.a.b", false, true}, {"y.x.a.b", "*.x.a.b", false, true}, {"a.a.b", "*.a.b", false, true}, {"a.b.a.b", "*.b.a.b", false, true}, {"xn--a.a.b", "*.a.b", false, true}, {"1.a.b", "*.a.b", false, true}, {strings.Repeat("x", 63) + ".a.b", "*.a.b", false, true}, {"*.a.b", "*.a.b", false, false}, // Base is a label, a . and that
		{"y.x.a.b", "*.a.b", false, false}, {"z.y.x.a.b", "*.a.b", false, false}, {"z.y.x.a.b", "*.x.a.b", false, false}, {"xa.b", "*.a.b", false, false}, {"x.c.b", "*.a.b", false, false}, {"x.a.c", "*.a.b", false, false}, {"x.xa.b", "*.a.b", false, false}, {"a", "*.a.b", false, false}, {"c", "*.a.b", false, false}, {"c.b", "*.a.b", false, false}, {"a.b.c", "*.a.b", false, false}, {"a.b", "*.xa.b", false, false}, {"a.b", "*.b.a", false, false}, {"b.a.b.c", "*.a.b", false, false},
		{"a.b", "*.a.b.", false, false}, {"a.b", "*.*.a.b", false, false}, {"b", "*.b", false, false}, {"b", "*", false, false}, {"a.b", "*x.a.b", false, false}, {"a.b", "x.*.a.b", false, false}, {"a.b", "-.a.b", false, false}, {"a.b", "", false, false}, {"", "a.b", false, false}, {"", "*.a.b", false, false}, {"", "", false, false}, {".a.b", "x.a.b", false, false}, {".", "a", false, false}, {"a.b", "a@a.b", false, false},
	} {
		stands(t, hostTree(c.base), dns(c.text), c.all, c.some)
		asWords(t, hostTree(c.base), dns(c.text))
	}
}

// P14.2: wild names of few labels against Bases of few, each against each.
func TestLieWild(t *testing.T) {
	var l []string
	for b := range probe.Short([]byte("aBbx"), 4) {
		l = append(l, strings.Join(strings.Split(string(b), ""), "."))
	}
	count := map[string]int{}
	for _, base := range l {
		for _, s := range l {
			all, some := asWords(t, hostTree(base), dns("*."+s))
			switch {
			case all:
				count["all"]++
			case some:
				count["some"]++
			}
		}
	}
	if count["all"] < 500 || count["some"] < 500 {
		t.Error(count)
	}
}

// P14.2: hosts' names and wild names as long as they may be: names that would be too long are not looked at.
func TestLieLong(t *testing.T) {
	for n := 120; n < 260; n++ {
		s := probe.LongHost(n)
		may := n <= 251
		stands(t, hostTree(s), dns("*."+s), may, may)
		stands(t, hostTree("aa"), dns("*."+s+".aa"), n+3 <= 251, n+3 <= 251)
		for m := 1; m < 8; m++ {
			base := strings.Repeat("x", m) + "." + s
			stands(t, hostTree(base), dns("*."+s), false, may && m+1+n <= 253)
			stands(t, hostTree(s), dns(base), m+1+n <= 253, m+1+n <= 253)
			stands(t, mailTree("."+s), mail("a@"+base), m+1+n <= 253, m+1+n <= 253)
		}
		stands(t, mailTree(s), mail("a@"+s), n <= 253, n <= 253)
		stands(t, mailTree("."+s), mail("a@"+s), false, false)
		stands(t, mailTree("a@"+s), mail("a@"+strings.ToUpper(s)), n <= 253, n <= 253)
	}
}

// P14.2: mail addresses against Bases of each sort.
func TestLieMails(t *testing.T) {
	for _, c := range []struct {
		base, text string
		want       bool
	}{
		{"a@c.d", "a@c.d", true}, {"a@c.d", "a@C.D", true}, {"a@C.d", "a@c.D", true}, {"a.B@c.d", "a.B@c.d", true}, {"a.B@c.d", "a.b@c.d", false}, {"A@c.d", "a@c.d", false}, {"a@c.d", "A@c.d", false}, {"a@c.d", "b@c.d", false}, {"a@c.d", "aa@c.d", false}, {"aa@c.d", "a@c.d", false}, {"a@c.d", "a@x.c.d", false}, {"a@x.c.d", "a@c.d", false}, {"a@c.d", "a@d", false}, {"a@c.d", "a@xc.d", false}, {"a@c.d", "a@c", false}, {"a@c.d", "a@c.e", false}, // an address
		{"c.d", "a@c.d", true}, {"C.D", "a@c.d", true}, {"c.d", "Q.q@C.d", true}, {"c.d", "a@x.c.d", false}, {"c.d", "a@xc.d", false}, {"c.d", "a@d", false}, {"c.d", "a@c", false}, {"c.d", "a@c.d.e", false}, {"c.d", "c.d@e.f", false}, {"d", "a@c.d", false}, {"d", "d@c", false}, {"d", "a@D", true}, // a host's name
		{".c.d", "a@x.c.d", true}, {".c.d", "a@y.x.c.d", true}, {".C.D", "a@X.c.d", true}, {".c.d", "A@X.C.D", true}, {".c.d", "a@c.d", false}, {".c.d", "a@C.D", false}, {".C.d", "a@c.D", false}, {".c.d", "a@xc.d", false}, {".c.d", "a@d", false}, {".c.d", "a@x.d", false}, {".c.d", "a@x.c.e", false}, {".c.d", "x.c.d@e", false}, {".d", "a@c.d", true}, {".d", "a@x.c.d", true}, {".d", "a@d", false}, {".d", "a@cd", false}, {".c.d", "a@c.d.c.d", true}, {".x.c.d", "a@y.x.c.d", true}, {".x.c.d", "a@c.d", false}, // a . and a host's name
		{"", "a@c.d", false}, {".", "a@c.d", false}, {"@c.d", "a@c.d", false}, {"a@", "a@c.d", false}, {"*.c.d", "a@x.c.d", false}, {"a@*.c.d", "a@x.c.d", false}, {"..c.d", "a@x.c.d", false}, {".a@c.d", "a@c.d", false}, {"a@.c.d", "a@x.c.d", false}, {".c.d.", "a@x.c.d", false}, {"c.d", "c.d", false}, {"c.d", "a@b@c.d", false}, {"c.d", "@c.d", false}, {"a@c.d", "a", false}, {".c.d", "x.c.d", false}, {"c.d\x80", "a@c.d\x80", false}, {"k", "a@\u212a", false}, {"\u212a", "a@k", false},
	} {
		stands(t, mailTree(c.base), mail(c.text), c.want, c.want)
		asWords(t, mailTree(c.base), mail(c.text))
		// Of another kind on one side nothing lies in anything.
		stands(t, hostTree(c.base), mail(c.text), false, false)
		stands(t, mailTree(c.base), dns(c.text), false, false)
	}
}

// P14.2: each byte of a local part, of a host, and ahead of a host, against each.
func TestLieMailBytes(t *testing.T) {
	for x := range 256 {
		one := string([]byte{byte(x)})
		stands(t, mailTree(".c.d"), mail("a@x"+one+"c.d"), one == ".", one == ".")
		for y := range 256 {
			two := string([]byte{byte(y)})
			same := x == y && strings.Contains("ABCDEFGHIJKLMNOPQRSTUVWXYZabcdefghijklmnopqrstuvwxyz0123456789_+-.", one)
			stands(t, mailTree("a"+one+"b@c.d"), mail("a"+two+"b@c.d"), same, same)
			asWords(t, mailTree("a"+one+"b"), mail("q@a"+two+"b"))
			asWords(t, mailTree("q@a"+one+"b"), mail("q@a"+two+"b"))
			asWords(t, mailTree(".a"+one+"b"), mail("q@x.a"+two+"b"))
		}
	}
}

// P14.2: names that begin with Base's, that are it, that are shorter, and others.
func TestLieNames(t *testing.T) {
	for _, c := range []struct {
		base, text string
		want       bool
	}{
		{"C=DE", "C=DE", true}, {"C=DE", "C=DE,O=a", true}, {"C=DE,O=a", "C=DE,O=A,CN=x", true}, {"C=DE,O=A  b", "C=DE,O= a B,CN=x", true}, {"", "C=DE", true}, {"", "", true}, {"C=DE", "C=DE,C=DE", true},
		{"C=DE", "", false}, {"C=DE,O=a", "C=DE", false}, {"C=DE,O=a,CN=x", "C=DE,O=a", false}, {"C=DE", "C=US", false}, {"C=DE", "O=a,C=DE", false}, {"C=DE,O=a", "O=a,C=DE", false}, {"C=DE,O=a", "C=DE,O=b", false}, {"C=DE,O=a", "C=DE,OU=a", false}, {"C=DE,O=a", "C=DE,CN=x,O=a", false}, {"O=ab", "O=a b", false}, {"CN=a", "CN=ab", false}, {"CN=ab", "CN=a", false},
	} {
		stands(t, nameTree(c.base), dn(c.text), c.want, c.want)
	}
	// Bytes that are no name's, of which one might read a beginning.
	right := named("C=DE")
	for _, b := range noNames() {
		stands(t, api.Subtree{Kind: 4, Base: b}, dn("C=DE"), false, false)
		stands(t, nameTree(""), api.General{Kind: 4, Text: b}, false, false)
		stands(t, nameTree("C=DE"), api.General{Kind: 4, Text: right + b}, b == "", b == "")
		stands(t, api.Subtree{Kind: 4, Base: right + b}, dn("C=DE,O=a"), b == "", b == "")
	}
	// A Base whose bytes those of a name begin with, as bytes, is none for that.
	stands(t, api.Subtree{Kind: 4, Base: right[:4]}, dn("C=DE"), false, false)
}

// P14.2: networks of each number of ones, against their address with one bit turned at each place.
func TestLieNets(t *testing.T) {
	for _, size := range []int{4, 16} {
		other := 20 - size
		for ones := range 8*size + 1 {
			mask := ofBits(size, func(i int) bool { return i < ones })
			for _, bits := range []func(i int) bool{
				func(int) bool { return true }, func(int) bool { return false }, func(i int) bool { return i%3 == 0 }, func(i int) bool { return i%2 == 0 },
			} {
				address := ofBits(size, func(i int) bool { return i < ones && bits(i) })
				tree := api.Subtree{Kind: 7, Base: address + mask}
				in := api.General{Kind: 7, Text: ofBits(size, bits)}
				stands(t, tree, in, true, true)
				stands(t, tree, api.General{Kind: 7, Text: address}, true, true)
				for turned := range 8 * size {
					want := turned >= ones
					g := api.General{Kind: 7, Text: ofBits(size, func(i int) bool { return bits(i) != (i == turned) })}
					stands(t, tree, g, want, want)
				}
				for _, s := range []string{ofBits(other, bits), strings.Repeat("\x00", other), address + mask, (address + address + address + address)[:other], ""} {
					stands(t, tree, api.General{Kind: 7, Text: s}, false, false)
				}
				broken := ofBits(size, func(i int) bool { return i < ones && bits(i) || i == ones })
				stands(t, api.Subtree{Kind: 7, Base: broken + mask}, api.General{Kind: 7, Text: broken}, ones == 8*size, ones == 8*size)
			}
		}
	}
}

// P14.2: drawn networks against addresses near them, as the library's prefixes say.
func TestLieDrawnNets(t *testing.T) {
	var draws probe.Draws
	taken := 0
	for range 20000 {
		size := []int{4, 16}[draws.Next()%2]
		ones := int(draws.Next() % uint64(8*size+1))
		text := draws.Bytes(size)
		mask := ofBits(size, func(i int) bool { return i < ones })
		address := make([]byte, size)
		for i := range size {
			address[i] = text[i] & mask[i]
		}
		at := draws.Next() % uint64(size)
		text[at] ^= byte(1) << (draws.Next() % 8)
		if all, _ := asWords(t, api.Subtree{Kind: 7, Base: string(address) + mask}, api.General{Kind: 7, Text: string(text)}); all {
			taken++
		}
	}
	if taken < 5000 || taken > 15000 {
		t.Errorf("%d are taken", taken)
	}
}

// P14.2: a Base and a Text that are of several kinds are asked as their own one's alone, and not at all where the kinds are two.
func TestLieKinds(t *testing.T) {
	texts := []string{"a.bc", "abcd", "a@bc", "0123456789abcdef", "*.a.b", "\x30\x00", named("C=DE"), raw("0a000000"), raw("0a000000 ff000000"), "", "a", ".a.b"}
	for k := -3; k <= 10; k++ {
		for j := -3; j <= 10; j++ {
			for _, base := range texts {
				for _, text := range texts {
					asWords(t, api.Subtree{Kind: k, Base: base}, api.General{Kind: j, Text: text})
					if k != j {
						stands(t, api.Subtree{Kind: k, Base: base}, api.General{Kind: j, Text: text}, false, false)
					}
				}
			}
		}
	}
	// What a wild name matches, of other kinds.
	for _, k := range []int{1, 4, 7} {
		stands(t, api.Subtree{Kind: k, Base: "x.a.b"}, dns("*.a.b"), false, false)
		stands(t, hostTree("x.a.b"), api.General{Kind: k, Text: "*.a.b"}, false, false)
		stands(t, api.Subtree{Kind: k, Base: "x.a.b"}, api.General{Kind: k, Text: "*.a.b"}, false, false)
	}
	wide := api.Subtree{Kind: 7, Base: strings.Repeat("\x00", 32)}
	stands(t, wide, api.General{Kind: 7, Text: "*.aaaa.bbbb.cccc"}, true, true)
	for _, k := range probe.NoKinds() {
		stands(t, api.Subtree{Kind: k, Base: "a.b"}, api.General{Kind: k, Text: "a.b"}, false, false)
	}
}

// P1, P14.2: no bytes break it; what is one byte away, by the chapter's words.
func TestLieOfAny(t *testing.T) {
	var draws probe.Draws
	const alphabet = "aAbxX0.-@*\x00\x02\x0a\x13\x30\x31\x80\xff"
	trees, names := goodTrees(), goodNames()
	var alls, somes int
	for i := range 40000 {
		tree, g := trees[draws.Next()%uint64(len(trees))], names[draws.Next()%uint64(len(names))]
		if i%2 == 0 { // of a kind, and mostly alike
			tree = api.Subtree{Kind: g.Kind, Base: g.Text}
			if g.Kind == 7 {
				tree.Base += strings.Repeat("\xff", len(g.Text))
			}
		}
		if i%3 == 0 {
			tree.Base = draws.Changed(tree.Base, alphabet)
		} else {
			g.Text = draws.Changed(g.Text, alphabet)
		}
		a, s := asWords(t, tree, g)
		if a {
			alls++
		}
		if s {
			somes++
		}
		asWords(t, api.Subtree{Kind: int(draws.Next() % 8), Base: string(draws.Bytes(i % 40))}, g)
		asWords(t, tree, api.General{Kind: int(draws.Next() % 8), Text: string(draws.Bytes(i % 20))})
	}
	if alls < 200 || somes <= alls {
		t.Errorf("only %d and %d", alls, somes)
	}
	for _, one := range []string{"a", ".", "a.", "*.", "@", "a@", "\xff", "\x00", "\x30"} {
		s := strings.Repeat(one, 1<<19)
		for k := range 9 {
			for _, tree := range []api.Subtree{{Kind: k, Base: s}, {Kind: k, Base: "a"}, {Kind: k, Base: ".a"}, {Kind: k, Base: "\x30\x00"}} {
				if within.All(tree, api.General{Kind: k, Text: s}) || within.Some(tree, api.General{Kind: k, Text: s}) {
					t.Errorf("%s is taken", showTree(tree))
				}
			}
			for _, g := range []api.General{dns("a"), dns("*.a.b"), mail("a@b"), dn(""), ip("0a000000")} {
				stands(t, api.Subtree{Kind: k, Base: s}, g, false, false)
			}
		}
	}
}
