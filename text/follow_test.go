package text_test

import (
	"strings"
	"testing"

	"chancery/api"
	"chancery/probe"
	"chancery/text"
)

// P5.5: Fold of Fold is Fold, and a text is alike with its own Fold.
func TestFoldTwice(t *testing.T) {
	for b := range probe.Short([]byte(" AZz\n\xc3\x89\xe2"), 5) {
		s := string(b)
		once := text.Fold(s)
		if text.Fold(once) != once || !text.Same(s, once) {
			t.Fatalf("Fold(%q): %q, and of it %q", s, once, text.Fold(once))
		}
	}
}

// P5.5: of all pairs and triples of some texts.
func TestEquivalence(t *testing.T) {
	var l []string
	for b := range probe.Short([]byte(" aA\xc3"), 3) {
		l = append(l, string(b))
	}
	for _, a := range l {
		if !text.Same(a, a) {
			t.Fatalf("%q is not alike with itself", a)
		}
		for _, b := range l {
			if text.Same(a, b) != text.Same(b, a) {
				t.Fatalf("%q and %q: one way only", a, b)
			}
			if !text.Same(a, b) {
				continue
			}
			for _, c := range l {
				if text.Same(a, c) != text.Same(b, c) {
					t.Fatalf("%q is alike with %q, but not as to %q", a, b, c)
				}
			}
		}
	}
}

// P5.5: 19 is part of 22, and that of 12; and Kind tells the first of 19 and 12.
func TestKindsWithin(t *testing.T) {
	check := func(s string) {
		t.Helper()
		is19, is22, is12 := text.May(19, s), text.May(22, s), text.May(12, s)
		if is19 && !is22 || is22 && !is12 {
			t.Fatalf("%.40q: 19 %t, 22 %t, 12 %t", s, is19, is22, is12)
		}
		kind, e := text.Kind(s)
		if (e == api.OK) != is12 || is19 && kind != 19 || is12 && !is19 && kind != 12 || !is12 && (kind != 0 || e != api.ErrText) {
			t.Fatalf("Kind(%.40q): %d, error %d", s, kind, e)
		}
	}
	for b := range probe.Short([]byte("aZ @\x7f\x80\xc3\xa9\xe2\xff"), 5) {
		check(string(b))
	}
	for b := range probe.Short([]byte("a@\xc3\xa9"), 4) {
		for n := api.MaxText - 5; n <= api.MaxText+1; n++ {
			check(strings.Repeat("x", n) + string(b))
		}
	}
}

// P5.5: what stands behind UTF-8 counts as if it stood alone.
func TestValidBehind(t *testing.T) {
	bytes := []byte("a\x80\xa9\xbf\xc3\xe2\xed\xf0\xff")
	var heads []string
	for b := range probe.Short(bytes, 4) {
		if s := string(b); text.Valid(s) == len(s) {
			heads = append(heads, s)
		}
	}
	for _, c := range edges {
		heads = append(heads, c.s)
	}
	if len(heads) < 50 {
		t.Fatalf("%d", len(heads))
	}
	for _, head := range heads {
		for b := range probe.Short(bytes, 3) {
			s := string(b)
			if text.Valid(head+s) != len(head)+text.Valid(s) {
				t.Fatalf("Valid(% x | % x): %d", head, s, text.Valid(head+s))
			}
		}
		for _, s := range none {
			valid(t, head+s, len(head))
		}
	}
}

// P5.5: and so a text is UTF-8 up to Valid of it, and not up to the byte behind that.
func TestValidBeginning(t *testing.T) {
	for b := range probe.Short([]byte("a\x80\x90\xbf\xc3\xe2\xed\xf0"), 5) {
		s := string(b)
		n := text.Valid(s)
		valid(t, s[:n], n)
		if n < len(s) {
			valid(t, s[n:], 0)
		}
	}
}
