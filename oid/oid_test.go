package oid_test

import (
	"bytes"
	"math"
	"slices"
	"strconv"
	"strings"
	"testing"

	"chancery/api"
	"chancery/oid"
	"chancery/probe"
)

// many is a list of n arcs that begins with some, filled up by 1.
func many(n int, begin ...int) []int {
	return append(begin, slices.Repeat([]int{1}, n-len(begin))...)
}

// good: object identifiers as arcs, as contents, as texts.
var good = []struct {
	arcs          []int
	content, text string
}{
	{[]int{2, 5, 4, 3}, "55 04 03", "2.5.4.3"},
	{[]int{1, 2, 840, 10045}, "2a 86 48 ce 3d", "1.2.840.10045"},
	{[]int{1, 3, 6, 1, 5, 5, 7, 48, 1}, "2b 06 01 05 05 07 30 01", "1.3.6.1.5.5.7.48.1"},
	{[]int{2, 999, 3}, "88 37 03", "2.999.3"},

	// The first number: each first arc with its least and greatest second ones, and the places where it gets a byte more.
	{[]int{0, 0}, "00", "0.0"},
	{[]int{0, 1}, "01", "0.1"},
	{[]int{0, 39}, "27", "0.39"},
	{[]int{1, 0}, "28", "1.0"},
	{[]int{1, 1}, "29", "1.1"},
	{[]int{1, 39}, "4f", "1.39"},
	{[]int{2, 0}, "50", "2.0"},
	{[]int{2, 1}, "51", "2.1"},
	{[]int{2, 39}, "77", "2.39"},
	{[]int{2, 40}, "78", "2.40"},
	{[]int{2, 47}, "7f", "2.47"},
	{[]int{2, 48}, "81 00", "2.48"},
	{[]int{2, 1<<14 - 81}, "ff 7f", "2.16303"},
	{[]int{2, 1<<14 - 80}, "81 80 00", "2.16304"},
	{[]int{2, 1<<21 - 81}, "ff ff 7f", "2.2097071"},
	{[]int{2, 1<<21 - 80}, "81 80 80 00", "2.2097072"},
	{[]int{2, 1<<28 - 81}, "ff ff ff 7f", "2.268435375"},
	{[]int{2, 1<<28 - 80}, "81 80 80 80 00", "2.268435376"},
	{[]int{2, api.MaxArc - 81}, "87 ff ff ff 7e", "2.2147483566"},
	{[]int{2, api.MaxArc - 80}, "87 ff ff ff 7f", "2.2147483567"},

	// Other numbers: both sides of each place where one gets a byte more, and the greatest.
	{[]int{0, 0, 0}, "00 00", "0.0.0"},
	{[]int{0, 39, 1}, "27 01", "0.39.1"},
	{[]int{1, 39, 39, 40}, "4f 27 28", "1.39.39.40"},
	{[]int{1, 2, 126, 127, 128, 129}, "2a 7e 7f 81 00 81 01", "1.2.126.127.128.129"},
	{[]int{1, 2, 255, 256}, "2a 81 7f 82 00", "1.2.255.256"},
	{[]int{1, 2, 1<<14 - 1, 1 << 14}, "2a ff 7f 81 80 00", "1.2.16383.16384"},
	{[]int{1, 2, 1<<21 - 1, 1 << 21}, "2a ff ff 7f 81 80 80 00", "1.2.2097151.2097152"},
	{[]int{1, 2, 1<<28 - 1, 1 << 28}, "2a ff ff ff 7f 81 80 80 80 00", "1.2.268435455.268435456"},
	{[]int{1, 2, api.MaxArc - 1, api.MaxArc}, "2a 87 ff ff ff 7e 87 ff ff ff 7f", "1.2.2147483646.2147483647"},
	{[]int{2, api.MaxArc - 80, api.MaxArc, 0}, "87 ff ff ff 7f 87 ff ff ff 7f 00", "2.2147483567.2147483647.0"},

	// As many arcs as there may be.
	{many(api.MaxArcs-1, 1, 2), "2a 0101010101010101010101010101010101", "1.2" + strings.Repeat(".1", 17)},
	{many(api.MaxArcs, 1, 2), "2a 010101010101010101010101010101010101", "1.2" + strings.Repeat(".1", 18)},
	{many(api.MaxArcs, 2, 48), "8100 010101010101010101010101010101010101", "2.48" + strings.Repeat(".1", 18)},
}

// bad: arcs that are no object identifier.
var bad = [][]int{
	nil, {}, {0}, {1}, {2}, {3}, {api.MaxArc}, // too few
	many(api.MaxArcs+1, 1, 2), many(api.MaxArcs+2, 1, 2), many(1000, 1, 2), // too many
	{0, 40}, {0, 41}, {1, 40}, {1, 79}, {0, api.MaxArc - 80}, {1, api.MaxArc - 80}, {0, api.MaxArc}, {1, api.MaxArc}, {1, 40, 1},
	{2, api.MaxArc - 79}, {2, api.MaxArc}, {2, api.MaxArc - 79, 1},
	{3, 0}, {3, 1}, {3, 39}, {3, 40}, {4, 1}, {40, 1}, {api.MaxArc, 0}, {api.MaxArc + 1, 0}, {3, 1, 1},
	{-1, 0}, {-1, 1}, {-1, 40}, {0, -1}, {1, -1}, {2, -1}, {2, -80}, {-1, 80}, {0, 0, -1}, {2, 5, -4, 3}, {1, 2, 3, -1},
	{0, api.MaxArc + 1}, {2, api.MaxArc + 1}, {1, 2, api.MaxArc + 1}, {1, 2, 3, api.MaxArc + 1}, {1, 2, api.MaxArc + 1, 3},
	{math.MinInt, 0}, {0, math.MinInt}, {2, math.MinInt}, {1, 2, math.MinInt}, {math.MaxInt, 0}, {2, math.MaxInt}, {1, 2, math.MaxInt},
	{math.MinInt, math.MaxInt}, {-2, 85},
}

// P3.1, P3.3, P3.6: all three forms, each out of the other.
func TestGood(t *testing.T) {
	for _, c := range good {
		if !oid.May(c.arcs) {
			t.Errorf("May(%d)", c.arcs)
		}
		if b, e := oid.Encode(c.arcs); !bytes.Equal(b, probe.Raw(c.content)) || e != api.OK {
			t.Errorf("Encode(%d): %x, error %d", c.arcs, b, e)
		}
		if l, e := oid.Decode(probe.Raw(c.content)); !slices.Equal(l, c.arcs) || e != api.OK {
			t.Errorf("Decode(%s): %d, error %d", c.content, l, e)
		}
		if s, e := oid.Text(c.arcs); s != c.text || e != api.OK {
			t.Errorf("Text(%d): %s, error %d", c.arcs, s, e)
		}
		if l, e := oid.Parse(c.text); !slices.Equal(l, c.arcs) || e != api.OK {
			t.Errorf("Parse(%s): %d, error %d", c.text, l, e)
		}
	}
}

// P3.1, P3.3: what is no object identifier has neither content nor text.
func TestBad(t *testing.T) {
	for _, arcs := range bad {
		if oid.May(arcs) {
			t.Errorf("May(%d)", arcs)
		}
		if b, e := oid.Encode(arcs); b != nil || e != api.ErrArg {
			t.Errorf("Encode(%d): %x, error %d", arcs, b, e)
		}
		if s, e := oid.Text(arcs); s != "" || e != api.ErrArg {
			t.Errorf("Text(%d): %s, error %d", arcs, s, e)
		}
		if l, e := oid.Parse(joined(arcs)); l != nil || e != api.ErrOID {
			t.Errorf("Parse(%s): %d, error %d", joined(arcs), l, e)
		}
	}
}

// joined is what the text would be, whether the arcs may be or not.
func joined(arcs []int) string {
	s := ""
	for i, arc := range arcs {
		if i > 0 {
			s += "."
		}
		s += strconv.Itoa(arc)
	}
	return s
}

// edges: numbers at both sides of all that an arc is asked for.
var edges = []int{
	math.MinInt, -1 << 31, -81, -80, -1, 0, 1, 2, 3, 38, 39, 40, 41, 47, 48, 79, 80, 127, 128, 1<<14 - 81, 1<<14 - 80, 1<<14 - 1, 1 << 14,
	1<<21 - 1, 1 << 21, 1<<28 - 1, 1 << 28, api.MaxArc - 81, api.MaxArc - 80, api.MaxArc - 79, api.MaxArc - 1, api.MaxArc, api.MaxArc + 1, math.MaxInt,
}

// P3.1, P3.3, P3.6: every three of these numbers, asked as the words say it; and back again.
func TestEdges(t *testing.T) {
	for _, x := range edges {
		for _, y := range edges {
			for _, z := range edges {
				arcs := []int{x, y, z}
				inRange := min(x, y, z) >= 0 && max(x, y, z) <= api.MaxArc
				want := inRange && ((x == 0 || x == 1) && y <= 39 || x == 2 && y <= api.MaxArc-80)
				if may := oid.May(arcs); may != want {
					t.Errorf("May(%d): %t", arcs, may)
				}
				b, e := oid.Encode(arcs)
				s, f := oid.Text(arcs)
				if !want {
					if b != nil || s != "" || e != api.ErrArg || f != api.ErrArg {
						t.Errorf("%d: %x, %s, errors %d and %d", arcs, b, s, e, f)
					}
					continue
				}
				if l, back := oid.Decode(b); e != api.OK || back != api.OK || !slices.Equal(l, arcs) {
					t.Errorf("Decode(Encode(%d)): %d, errors %d and %d", arcs, l, e, back)
				}
				if l, back := oid.Parse(s); s != joined(arcs) || f != api.OK || back != api.OK || !slices.Equal(l, arcs) {
					t.Errorf("Parse(Text(%d)): %d, errors %d and %d", arcs, l, f, back)
				}
			}
		}
	}
}

// P3.1: how many there may be, whatever else they are.
func TestHowMany(t *testing.T) {
	for n := range 3 * api.MaxArcs {
		for _, arc := range []int{0, 1, 2, api.MaxArc} {
			arcs := slices.Repeat([]int{arc}, n)
			if n > 1 && arc == api.MaxArc {
				arcs[0], arcs[1] = 2, api.MaxArc-80
			}
			if may := oid.May(arcs); may != (n >= 2 && n <= api.MaxArcs) {
				t.Errorf("May of %d arcs %d: %t", n, arc, may)
			}
		}
	}
}
