package within_test

import (
	"slices"
	"strings"
	"testing"

	"chancery/probe"
	"chancery/within"
)

// asBelow fails unless Below answers as the chapter's words do; it tells what.
func asBelow(t *testing.T, a, b string) bool {
	t.Helper()
	got := within.Below(a, b)
	if got != isBelow(a, b) {
		t.Fatalf("Below(%.300q, %.300q): %t", a, b, got)
	}
	return got
}

// P14.1: hosts' names, written out.
func TestBelow(t *testing.T) {
	for _, c := range []struct {
		a, b string
		want bool
	}{
		{"a.b", "a.b", true}, {"a.B", "A.b", true}, {"x.a.b", "a.b", true}, {"X.A.B", "a.b", true}, {"x.a.b", "A.B", true}, {"y.x.a.b", "a.b", true}, {"a.b", "b", true}, {"x.a.b", "b", true}, {"b", "b", true}, {"B", "b", true}, {"b.b", "b", true}, {"a.b.a.b", "a.b", true}, {"a.a.b", "a.b", true}, {"x-y.a.b", "a.b", true}, {"1.b", "b", true}, {"0.1.b", "1.b", true}, // below
		{"xa.b", "a.b", false}, {"ab", "b", false}, {"x.ab", "b", false}, {"x-a.b", "a.b", false}, {"bb", "b", false}, {"a.b", "x.a.b", false}, {"b", "a.b", false}, {"a", "a.b", false}, {"a.b.c", "a.b", false}, {"b.a", "a.b", false}, {"a.c", "a.b", false}, {"a", "b", false}, {"x.b", "a.b", false}, {"a.x.b", "a.b", false}, {"a.bb", "a.b", false}, {"abc", "a.c", false}, {"xaxb", "a.b", false}, {"x.axb", "a.b", false}, // not
		{"", "", false}, {"a", "", false}, {"", "a", false}, {"a.", "", false}, {".", ".", false}, {".a", "a", false}, {"a", ".a", false}, {"x.a", ".a", false}, {"x.a", "a.", false}, {"x.a.", "a.", false}, {"x.a.", "a", false}, {"x..a", "a", false}, {"..a", "a", false}, {"x.a.b", ".a.b", false}, {".a.b", ".a.b", false}, // dots
		{"*.a.b", "a.b", false}, {"*.a.b", "*.a.b", false}, {"x.a.b", "*.a.b", false}, {"x.*.a.b", "a.b", false}, {"-.a.b", "a.b", false}, {"x_.a.b", "a.b", false}, {"x@a.b", "a.b", false}, {"x@a.b", "x@a.b", false}, {"a.1", "1", false}, {"a.1", "a.1", false}, {"1", "1", false}, {"10.0.0.1", "0.1", false}, {"a b", "a b", false}, // no hosts' names
		{"\xff", "\xff", false}, {"a\x80.b", "b", false}, {"a.b\x80", "a.b\x80", false}, {"\u212a", "k", false}, {"k", "\u212a", false}, {"x.\u212a", "k", false}, {"x.k", "\u212a", false}, {"\u212a", "\u212a", false}, {"x.\u017f.a", "s.a", false}, {"x.s.a", "\u017f.a", false}, {"\u00e9.a", "a", false},
	} {
		if got := asBelow(t, c.a, c.b); got != c.want {
			t.Errorf("Below(%q, %q): %t", c.a, c.b, got)
		}
	}
}

// P14.1: each of all sorts against each.
func TestBelowAll(t *testing.T) {
	taken := 0
	l := slices.Concat(hostNames(), noHostNames())
	for _, a := range l {
		for _, b := range l {
			if asBelow(t, a, b) {
				taken++
			}
		}
	}
	if taken < 100 {
		t.Errorf("only %d are taken", taken)
	}
}

// P14.1: all short ones, and all of few labels.
func TestBelowOfFew(t *testing.T) {
	var short, labels []string
	for b := range probe.Short([]byte("aB.b"), 4) {
		short = append(short, string(b))
	}
	for b := range probe.Short([]byte("aAb"), 4) {
		labels = append(labels, strings.Join(strings.Split(string(b), ""), "."))
	}
	for _, l := range [][]string{short, labels} {
		taken := 0
		for _, a := range l {
			for _, b := range l {
				if asBelow(t, a, b) {
					taken++
				}
			}
		}
		if taken < 200 {
			t.Errorf("only %d are taken", taken)
		}
	}
}

// P14.1: each byte against each, and each byte ahead of a Base.
func TestBelowBytes(t *testing.T) {
	for x := range 256 {
		one := string([]byte{byte(x)})
		if got := within.Below("x"+one+"a.b", "a.b"); got != (one == ".") {
			t.Errorf("Below(x%qa.b, a.b): %t", one, got)
		}
		if got := within.Below("x"+one+"b", "b"); got != (one == ".") {
			t.Errorf("Below(x%qb, b): %t", one, got)
		}
		for y := range 256 {
			two := string([]byte{byte(y)})
			letters := x >= 'a' && x <= 'z' || x >= 'A' && x <= 'Z'
			plain := letters || x >= '0' && x <= '9' || x == '-' || x == '.'
			want := letters && x^y == 'a'-'A' || plain && x == y
			for _, a := range []string{"a" + one + "b.c", "x.a" + one + "b.c", "y.x.A" + one + "B.C"} {
				if got := within.Below(a, "a"+two+"b.c"); got != want {
					t.Fatalf("Below(%q, a%qb.c): %t", a, two, got)
				}
			}
		}
	}
}

// P14.1: names as long as they may be, and longer.
func TestBelowLong(t *testing.T) {
	for n := 1; n < 300; n++ {
		b := probe.LongHost(n)
		if got := within.Below(b, strings.ToUpper(b)); got != (n <= 253) {
			t.Errorf("%d bytes, below themselves: %t", n, got)
		}
		for m := 1; m < 66; m++ {
			want := m <= 63 && m+1+n <= 253
			if got := within.Below(strings.Repeat("x", m)+"."+b, b); got != want {
				t.Errorf("%d bytes, a dot and %d: %t", m, n, got)
			}
			if within.Below(b, strings.Repeat("x", m)+"."+b) {
				t.Errorf("%d bytes, below %d, a dot and these", n, m)
			}
		}
	}
	for _, one := range []string{"a.", ".", "a", "\xff", "*."} {
		s := strings.Repeat(one, 1<<20)
		for _, b := range []string{"a", "", ".", s, s + "a"} {
			asBelow(t, s, b)
			asBelow(t, s+"a", b)
			asBelow(t, b, s)
		}
	}
}
