package host_test

import (
	"testing"

	"chancery/api"
	"chancery/host"
	"chancery/probe"
)

// P13.1, P13.4: general names of each sort that may be, with their texts.
func TestMay(t *testing.T) {
	for _, g := range goods(t) {
		if !mayBe(g) {
			t.Fatalf("%s may not be, by the chapter's words", show(g))
		}
		takes(t, g, textOf(t, g))
	}
}

// P13.1, P13.4: of each sort that may not be.
func TestMayNot(t *testing.T) {
	for _, g := range wrongs(t) {
		if mayBe(g) {
			t.Fatalf("%s may be, by the chapter's words", show(g))
		}
		refuses(t, g)
	}
}

// P13.1: the numbers near the kinds, with a Text of each kind.
func TestMayKinds(t *testing.T) {
	texts := []string{"", "a", "a.b", "*.a.b", "a@b", "abcd", "\x30\x00", nameBytes(t, "C=DE"), "0123456789abcdef", "\x30\x02\x31\x00"}
	for k := -300; k <= 300; k++ {
		for _, s := range texts {
			g := api.General{Kind: k, Text: s}
			if mayBe(g) {
				takes(t, g, textOf(t, g))
			} else {
				refuses(t, g)
			}
		}
	}
	// What is of one kind, and also of another one.
	for _, c := range []struct {
		text  string
		kinds []int
	}{
		{"a.bc", []int{2, 7}}, {"abcd", []int{2, 7}}, {"a@bc", []int{1, 7}}, {"0123456789abcdef", []int{2, 7}}, {"*.a.b", []int{2}}, {"\x30\x00", []int{4}}, {"0@23456789abcdef", []int{1, 7}},
	} {
		for k := range 10 {
			want := false
			for _, x := range c.kinds {
				want = want || x == k
			}
			if got := host.May(api.General{Kind: k, Text: c.text}); got != want {
				t.Errorf("May({%d %q}): %t", k, c.text, got)
			}
		}
	}
}

// P13.1: of GName what name.Decode takes, and nothing else: all bytes one away from names'.
func TestMayNames(t *testing.T) {
	var draws probe.Draws
	taken := 0
	alphabet := "\x00\x01\x02\x06\x0c\x13\x30\x31\x55aD" + string(draws.Bytes(40))
	for _, s := range nameTexts() {
		b := nameBytes(t, s)
		for range 400 {
			g := api.General{Kind: 4, Text: draws.Changed(b, alphabet)}
			if mayBe(g) {
				taken++
				takes(t, g, textOf(t, g))
			} else {
				refuses(t, g)
			}
		}
	}
	if taken < 100 {
		t.Errorf("only %d are taken", taken)
	}
}

// P1: no bytes break it, of any kind.
func TestMayOfAny(t *testing.T) {
	var draws probe.Draws
	for i := range 20000 {
		g := api.General{Kind: int(draws.Next()%12) - 2, Text: string(draws.Bytes(i % 40))}
		if mayBe(g) {
			takes(t, g, textOf(t, g))
		} else {
			refuses(t, g)
		}
	}
}
