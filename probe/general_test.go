package probe_test

import (
	"slices"
	"strings"
	"testing"

	"chancery/probe"
)

func TestLongHost(t *testing.T) {
	for n := 1; n < 600; n++ {
		s := probe.LongHost(n)
		for label := range strings.SplitSeq(s, ".") {
			if label == "" || len(label) > 63 {
				t.Errorf("%d bytes: a label of %d", n, len(label))
			}
		}
		if len(s) != n {
			t.Errorf("%d bytes: %d", n, len(s))
		}
	}
}

func TestNoKinds(t *testing.T) {
	l := probe.NoKinds()
	if len(l) == 0 || slices.ContainsFunc(l, func(k int) bool { return k == 1 || k == 2 || k == 4 || k == 7 }) {
		t.Errorf("%d", l)
	}
}

func TestChanged(t *testing.T) {
	var draws probe.Draws
	var more, fewer, other int
	for range 1000 {
		switch s := draws.Changed("abc", "xy"); {
		case len(s) == 4 && strings.Replace(strings.Replace(s, "x", "", 1), "y", "", 1) == "abc":
			more++
		case slices.Contains([]string{"bc", "ac", "ab"}, s):
			fewer++
		case len(s) == 3 && s != "abc" && strings.ContainsAny(s, "xy"):
			other++
		default:
			t.Fatalf("%q", s)
		}
	}
	if more == 0 || fewer == 0 || other == 0 {
		t.Error(more, fewer, other)
	}
	if s := draws.Changed("", "x"); s != "x" {
		t.Errorf("%q", s)
	}
}
