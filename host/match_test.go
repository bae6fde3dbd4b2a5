package host_test

import (
	"slices"
	"strings"
	"testing"

	"chancery/host"
	"chancery/probe"
)

// asMatch fails unless Match answers as the chapter's words do; it tells what.
func asMatch(t *testing.T, pattern, s string) bool {
	t.Helper()
	got := host.Match(pattern, s)
	if got != matches(pattern, s) {
		t.Fatalf("Match(%.300q, %.300q): %t", pattern, s, got)
	}
	return got
}

// P13.3: patterns and names, written out.
func TestMatch(t *testing.T) {
	for _, c := range []struct {
		pattern, s string
		want       bool
	}{
		{"*.a.b", "X.A.b", true}, {"*.a.b", "a.b", false}, {"*.a.b", "x.y.a.b", false}, {"A.b", "a.B", true}, {"*.a.b", "*.a.b", false},
		{"a", "a", true}, {"a", "A", true}, {"a", "b", false}, {"a.b", "a.b", true}, {"a.b", "a", false}, {"a", "a.b", false}, {"a.b", "b", false}, {"a.b", "b.a", false}, {"a.b", "x.a.b", false}, {"a.b.c", "a.b", false},
		{"a-b.c", "a-b.c", true}, {"a1.c", "a1.c", true}, {"a1.c", "a2.c", false}, {"1.c", "1.C", true},
		{"*.a.b", "x.a.b", true}, {"*.A.B", "x.a.b", true}, {"*.a.b", "xyz.a.b", true}, {"*.a.b", "x-y.a.b", true}, {"*.a.b", "1.a.b", true}, {"*.a.b", "a.a.b", true}, {"*.a.b", "xn--a.a.b", true},
		{"*.a.b", "x.b", false}, {"*.a.b", "x.a", false}, {"*.a.b", "x.b.a", false}, {"*.a.b", "x.aa.b", false}, {"*.a.b", "x.a.bb", false}, {"*.a.b", "xa.b", false}, {"*.a.b", "x.a.c", false}, {"*.a.b", "x.a.b.c", false}, {"*.a.b", "a.b.c", false}, {"*.a.b", "b", false}, {"*.a.b", "x", false},
		{"*.a.b.c", "x.a.b.c", true}, {"*.a.b.c", "x.b.c", false}, {"*.b.c", "x.a.b.c", false}, {"*.a.b", "a.b.a.b", false}, {"*.1.b", "x.1.b", true},
		{"x.a.b", "*.a.b", false}, {"*.a.b", "*.A.b", false}, {"a", "*", false}, {"*", "a", false}, {"*", "*", false}, {"*.a", "x.a", false}, {"*.b", "a.b", false}, {"*.*.b", "x.a.b", false}, {"*.*.a.b", "x.y.a.b", false}, {"x*.a.b", "xy.a.b", false}, {"*x.a.b", "yx.a.b", false}, {"x.*.b", "x.a.b", false}, {"x.a.*", "x.a.b", false}, {"**.a.b", "x.a.b", false},
		{"", "", false}, {"", "a", false}, {"a", "", false}, {".", ".", false}, {"*.", "a.", false}, {"*.a.b", ".a.b", false}, {"*.a.b", "x.a.b.", false}, {"*.a.b.", "x.a.b", false}, {"a.", "a.", false}, {"a.", "a", false}, {"a", "a.", false}, {".a.b", "x.a.b", false}, {"*.a.b", "-.a.b", false}, {"*.a.b", "-x.a.b", false}, {"*.a.b", "x_.a.b", false}, {"*.a.b", "x .a.b", false},
		{"a.1", "a.1", false}, {"1.2.3.4", "1.2.3.4", false}, {"*.2.3.4", "1.2.3.4", false}, {"1", "1", false}, {"a@b", "a@b", false}, {"a b", "a b", false}, {"a\x00", "a\x00", false}, {"\xff", "\xff", false},
		{"k", "\u212a", false}, {"\u212a", "k", false}, {"\u212a", "\u212a", false}, {"s.a", "\u017f.a", false}, {"\u017f.a", "s.a", false}, {"*.k.b", "x.\u212a.b", false}, {"*.\u212a.b", "x.k.b", false}, {"*.a.s", "x.a.\u017f", false},
		{"a-b", "a\rb", false}, {"a\rb", "a-b", false}, {"a0", "a\x10", false}, {"*.a-b.c", "x.a\rb.c", false}, // bytes that differ as letters do
		{"abcdefghijklmnopqrstuvwxyz", "ABCDEFGHIJKLMNOPQRSTUVWXYZ", true}, {"*.abcdefghijklm.nopqrstuvwxyz", "x.ABCDEFGHIJKLM.NOPQRSTUVWXYZ", true},
	} {
		if got := asMatch(t, c.pattern, c.s); got != c.want {
			t.Errorf("Match(%q, %q): %t", c.pattern, c.s, got)
		}
	}
}

// P13.3: each of all sorts against each.
func TestMatchAll(t *testing.T) {
	var all []string
	for _, s := range slices.Concat(hosts(), wilds(), noHosts(), noWilds(), []string{"a@b", "x@a.b"}) {
		if len(s) <= 320 {
			all = append(all, s)
		}
	}
	taken := 0
	for _, pattern := range all {
		for _, s := range all {
			if asMatch(t, pattern, s) {
				taken++
			}
		}
	}
	if taken < len(hosts())+len(wilds()) {
		t.Errorf("only %d are taken", taken)
	}
}

// P13.3: all short texts against some, and each of few labels against each.
func TestMatchOfFew(t *testing.T) {
	patterns := []string{"a", "A", "b", "a.b", "A.B", "b.a", "a.a", "*.a.b", "*.A.b", "*.b.a", "*.a.a", "*.a", "*", "", "a.a.b", "b.A.b", "1.a", "a-a"}
	for b := range probe.Short([]byte("aAb1.-*"), 5) {
		for _, pattern := range patterns {
			asMatch(t, pattern, string(b))
			asMatch(t, string(b), pattern)
		}
	}
	var rows []string
	for labels := range probe.Short([]byte("aBb*"), 4) {
		rows = append(rows, strings.Join(strings.Split(string(labels), ""), "."))
	}
	taken := 0
	for _, pattern := range rows {
		for _, s := range rows {
			if asMatch(t, pattern, s) {
				taken++
			}
		}
	}
	if taken < 500 {
		t.Errorf("only %d are taken", taken)
	}
}

// P13.3: letters small and great against one another, at each place, and all other bytes against each other.
func TestMatchLetters(t *testing.T) {
	for x := range 256 {
		for y := range 256 {
			one, two := string([]byte{byte(x)}), string([]byte{byte(y)})
			letters := x >= 'a' && x <= 'z' || x >= 'A' && x <= 'Z'
			digits := x >= '0' && x <= '9'
			want := letters && (x == y || x^y == 'a'-'A') || digits && x == y
			if got := host.Match("a"+one+".c", "a"+two+".c"); got != want {
				t.Fatalf("Match(a%q.c, a%q.c): %t", one, two, got)
			}
			inside := want || x == y && (x == '-' || x == '.')
			if got := host.Match("a"+one+"b.c", "A"+two+"B.C"); got != inside {
				t.Fatalf("Match(a%qb.c, A%qB.C): %t", one, two, got)
			}
			if got := host.Match("*.a"+one+"b.c", "x.a"+two+"b.c"); got != inside {
				t.Fatalf("Match(*.a%qb.c, x.a%qb.c): %t", one, two, got)
			}
			if got := host.Match("*.a.b"+one, "x.a.b"+two); got != want {
				t.Fatalf("Match(*.a.b%q, x.a.b%q): %t", one, two, got)
			}
		}
	}
}

// P13.3: the first label may be any one, and all others must be the same.
func TestMatchFirst(t *testing.T) {
	for n := range 66 {
		one := strings.Repeat("x", n)
		if want := n >= 1 && n <= 63; host.Match("*.a.b", one+".a.b") != want {
			t.Errorf("a first label of %d bytes: not %t", n, want)
		}
	}
	for count := 3; count < 40; count++ {
		labels := strings.Split(strings.Repeat("a.", count-1)+"b", ".")
		s := strings.Join(labels, ".")
		pattern := "*." + strings.Join(labels[1:], ".")
		if !host.Match(pattern, s) || !host.Match(strings.ToUpper(pattern), s) || !host.Match(s, strings.ToUpper(s)) {
			t.Errorf("Match(%q, %q): false", pattern, s)
		}
		for at := range labels {
			other := slices.Clone(labels)
			other[at] = "c"
			if host.Match(pattern, strings.Join(other, ".")) != (at == 0) || host.Match(s, strings.Join(other, ".")) {
				t.Errorf("%d labels, another one at %d", count, at)
			}
			fewer := strings.Join(slices.Delete(slices.Clone(labels), at, at+1), ".")
			more := strings.Join(slices.Insert(slices.Clone(labels), at, "a"), ".")
			if host.Match(pattern, fewer) || host.Match(pattern, more) || host.Match(s, fewer) || host.Match(s, more) {
				t.Errorf("%d labels, one fewer or one more at %d", count, at)
			}
		}
	}
}

// P13.3: patterns and names as long as they may be, and longer.
func TestMatchLong(t *testing.T) {
	for n := 240; n < 260; n++ {
		rest := probe.LongHost(n)
		for m := 1; m < 12; m++ {
			first := strings.Repeat("x", m)
			want := n+2 <= 253 && n+1+m <= 253
			if got := host.Match("*."+rest, first+"."+strings.ToUpper(rest)); got != want {
				t.Errorf("*. and %d bytes, against %d, a dot and these: %t", n, m, got)
			}
		}
		if got := host.Match(rest, strings.ToUpper(rest)); got != (n <= 253) {
			t.Errorf("%d bytes against themselves: %t", n, got)
		}
	}
	for _, s := range noHosts() {
		if host.Match(s, s) || host.Match("a.b", s) || host.Match("*.a.b", s) || host.Match(s, "a.b") {
			t.Errorf("%.300q is taken", s)
		}
		if !isWild(s) && host.Match(s, "x.a.b") {
			t.Errorf("the pattern %.300q is taken", s)
		}
	}
}

// P1, P13.3: no bytes break it; what is one byte away, by the chapter's words.
func TestMatchOfAny(t *testing.T) {
	var draws probe.Draws
	const alphabet = "abBxX1.-*\xff"
	all := slices.Concat(hosts(), wilds())
	for i := range 20000 {
		pattern := all[i%len(all)]
		s := strings.Replace(pattern, "*", "x", 1)
		asMatch(t, pattern, draws.Changed(s, alphabet))
		asMatch(t, draws.Changed(pattern, alphabet), s)
		asMatch(t, string(draws.Bytes(i%20)), s)
		asMatch(t, pattern, string(draws.Bytes(i%20)))
	}
}
