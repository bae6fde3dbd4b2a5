package within_test

import (
	"strings"
	"testing"

	"chancery/api"
	"chancery/probe"
	"chancery/within"
)

// P14.1: the chapter's examples.
func TestMayExamples(t *testing.T) {
	for tree, want := range map[api.Subtree]bool{hostTree("a.b"): true, hostTree("*.a.b"): false, netTree("0a000000 ff000000"): true, netTree("0a000001 ff000000"): false, netTree("00000000 ff00ff00"): false} {
		if within.May(tree) != want {
			t.Errorf("May(%s): %t", showTree(tree), !want)
		}
	}
}

// P14.1: subtrees of each sort that may be.
func TestMay(t *testing.T) {
	for _, tree := range goodTrees() {
		if !within.May(tree) || !mayBe(tree) {
			t.Errorf("May(%s): %t; by the chapter's words %t", showTree(tree), within.May(tree), mayBe(tree))
		}
	}
}

// P14.1: of each sort that may not be.
func TestMayNot(t *testing.T) {
	for _, tree := range badTrees() {
		if within.May(tree) || mayBe(tree) {
			t.Errorf("May(%s): %t; by the chapter's words %t", showTree(tree), within.May(tree), mayBe(tree))
		}
	}
}

// asMay fails unless May answers as the chapter's words do; it tells what.
func asMay(t *testing.T, tree api.Subtree) bool {
	t.Helper()
	got := within.May(tree)
	if got != mayBe(tree) {
		t.Fatalf("May(%s): %t", showTree(tree), got)
	}
	return got
}

// P14.1: the numbers near the kinds, with a Base of each kind; a Base of one kind is asked as that kind's alone.
func TestMayKinds(t *testing.T) {
	bases := map[string][]int{"a": {1, 2}, "a.b": {1, 2}, ".a.b": {1}, "a@b": {1}, "\x30\x00": {4}, named("C=DE"): {4}, raw("0a000000 ff000000"): {7}, strings.Repeat("\xff", 8): {7}, strings.Repeat("\x00", 32): {7}, "": {}, "*.a.b": {}}
	for base, kinds := range bases {
		for k := -300; k <= 300; k++ {
			want := false
			for _, x := range kinds {
				want = want || x == k
			}
			if got := within.May(api.Subtree{Kind: k, Base: base}); got != want {
				t.Errorf("May({%d %q}): %t", k, base, got)
			}
		}
	}
}

// P14.1: network Bases of each length.
func TestMayNetLengths(t *testing.T) {
	for n := range 600 {
		for _, one := range []string{"\x00", "\xff"} {
			if got := within.May(api.Subtree{Kind: 7, Base: strings.Repeat(one, n)}); got != (n == 8 || n == 32) {
				t.Errorf("%d bytes %x: %t", n, one, got)
			}
		}
	}
	for _, n := range []int{1<<8 + 8, 1<<8 + 32, 1<<16 + 8, 1<<16 + 32, 1 << 20} {
		if within.May(api.Subtree{Kind: 7, Base: strings.Repeat("\x00", n)}) {
			t.Errorf("%d bytes: true", n)
		}
	}
}

// P14.1: masks of each number of 1 bits, with a bit of the mask turned, and with one of the address set, at each place.
func TestMayNetBits(t *testing.T) {
	for _, size := range []int{4, 16} {
		for ones := range 8*size + 1 {
			mask := ofBits(size, func(i int) bool { return i < ones })
			for i := range 8 * size {
				turned := ofBits(size, func(j int) bool { return (j < ones) != (i == j) })
				one := ofBits(size, func(j int) bool { return i == j })
				zeros := strings.Repeat("\x00", size)
				if got := asMay(t, api.Subtree{Kind: 7, Base: zeros + turned}); got != (i == ones || i == ones-1) {
					t.Errorf("a mask of %d ones, turned at %d: %t", ones, i, got)
				}
				if got := asMay(t, api.Subtree{Kind: 7, Base: one + mask}); got != (i < ones) {
					t.Errorf("a mask of %d ones, a 1 in the address at %d: %t", ones, i, got)
				}
				if !asMay(t, api.Subtree{Kind: 7, Base: zeros + mask}) || !asMay(t, api.Subtree{Kind: 7, Base: mask + mask}) {
					t.Errorf("a mask of %d ones: false", ones)
				}
			}
		}
	}
}

// ofBits are n bytes with a 1 where is says so.
func ofBits(n int, is func(i int) bool) string {
	b := make([]byte, n)
	for i := range 8 * n {
		if is(i) {
			b[i/8] |= 0x80 >> (i % 8)
		}
	}
	return string(b)
}

// P14.1: each byte of a mask, with each byte of the address there.
func TestMayNetBytes(t *testing.T) {
	taken := 0
	for mask := range 256 {
		for address := range 256 {
			a, m := string([]byte{byte(address)}), string([]byte{byte(mask)})
			for _, base := range []string{a + "\x00\x00\x00" + m + "\x00\x00\x00", "\x0a" + a + "\x00\x00\xff" + m + "\x00\x00", "\x0a\xff\x01" + a + "\xff\xff\xff" + m, a + "\x00\x00\x00" + m + "\x00\x80\x00"} {
				if asMay(t, api.Subtree{Kind: 7, Base: base}) {
					taken++
				}
			}
		}
	}
	if want := 3 * 511; taken != want { // of a mask of n ones 2 to the power n addresses, n from 0 to 8
		t.Errorf("%d are taken, want %d", taken, want)
	}
}

// P14.1: each byte at each place of a host's name and of mail's Bases, and all short ones.
func TestMayBytes(t *testing.T) {
	for x := range 256 {
		one := string([]byte{byte(x)})
		for _, base := range []string{"", "a", "a.b", ".a.b", "a@b", "a.b@c.d", "*.a.b"} {
			for at := range len(base) + 1 {
				for _, s := range []string{base[:at] + one + base[at:], base[:at] + one + base[min(at+1, len(base)):]} {
					asMay(t, mailTree(s))
					got := asMay(t, hostTree(s))
					if x >= 0x80 && got {
						t.Errorf("%q is taken", s)
					}
				}
			}
		}
	}
	for b := range probe.Short([]byte("aA1.-@*_"), 5) {
		asMay(t, mailTree(string(b)))
		asMay(t, hostTree(string(b)))
	}
}

// P14.1: hosts' names as long as they may be, and longer, in each sort of Base.
func TestMayLong(t *testing.T) {
	for n := 240; n < 270; n++ {
		s, want := probe.LongHost(n), n <= 253
		local := strings.Repeat("a", 64)
		for _, tree := range []api.Subtree{hostTree(s), mailTree(s), mailTree("." + s), mailTree("a@" + s), mailTree(local + "@" + s)} {
			if asMay(t, tree) != want {
				t.Errorf("%d bytes: May(%s) is not %t", n, showTree(tree), want)
			}
		}
		if asMay(t, mailTree(local+"a@"+s)) || asMay(t, mailTree(".."+s)) || asMay(t, hostTree("."+s)) {
			t.Errorf("%d bytes: what may not be is taken", n)
		}
	}
}

// P1, P14.1: no bytes break it.
func TestMayOfAny(t *testing.T) {
	var draws probe.Draws
	l := goodTrees()
	for i := range 20000 {
		tree := l[i%len(l)]
		tree.Base = draws.Changed(tree.Base, "aA0.-@*\x00\x01\x13\x30\x31\x7f\x80\xff")
		asMay(t, tree)
		asMay(t, api.Subtree{Kind: int(draws.Next()%12) - 2, Base: string(draws.Bytes(i % 40))})
	}
	for _, one := range []string{"a", ".", "-", "@", "*.", "a.", "a@", ".@", "\xff", "\x00", "\x30"} {
		for k := range 9 {
			asMay(t, api.Subtree{Kind: k, Base: strings.Repeat(one, 1<<20)})
		}
	}
}
