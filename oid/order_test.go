package oid_test

import (
	"math"
	"slices"
	"testing"

	"chancery/api"
	"chancery/oid"
)

// P3.4
func TestCompare(t *testing.T) {
	// In their order, no two alike; most of them are no object identifiers.
	rising := [][]int{
		{}, {math.MinInt}, {math.MinInt, math.MaxInt}, {-2}, {-1}, {-1, -1}, {-1, 0}, {0}, {0, -1}, {0, 0}, {0, 0, 0}, {0, 1}, {1}, {1, math.MinInt}, {1, 2, 840},
		{2}, {2, 5}, {2, 5, -1}, {2, 5, 3, 9}, {2, 5, 4}, {2, 5, 4, 3}, {2, 5, 10}, {2, 9}, {2, 40}, {3}, {3, 0}, {10}, {api.MaxArc}, {api.MaxArc + 1}, {math.MaxInt}, {math.MaxInt, math.MinInt},
		many(1000, math.MaxInt, 0), many(1001, math.MaxInt, 0),
	}
	for i, a := range rising {
		for j, b := range rising {
			want := 0
			if i < j {
				want = -1
			} else if i > j {
				want = 1
			}
			if got := oid.Compare(slices.Clone(a), slices.Clone(b)); got != want {
				t.Errorf("Compare(%d, %d): %d", a, b, got)
			}
		}
	}
	if oid.Compare(nil, nil) != 0 || oid.Compare(nil, []int{}) != 0 || oid.Compare([]int{}, nil) != 0 {
		t.Error("nil and empty lists are not alike")
	}
	if oid.Compare(nil, []int{math.MinInt}) != -1 || oid.Compare([]int{math.MinInt}, nil) != 1 {
		t.Error("a nil list does not come first")
	}
}

// P3.4
func TestBegins(t *testing.T) {
	for _, c := range []struct {
		a, b []int
		want bool
	}{
		{nil, nil, true}, {nil, []int{}, true}, {[]int{}, nil, true}, {[]int{1}, nil, true}, {[]int{1}, []int{}, true},
		{nil, []int{1}, false}, {nil, []int{0}, false}, {[]int{}, []int{0}, false},
		{[]int{2, 5, 4}, []int{2, 5}, true}, {[]int{2, 5}, []int{2, 5, 4}, false}, {[]int{2, 5}, []int{2, 5}, true},
		{[]int{2, 5, 4}, []int{2}, true}, {[]int{2, 5, 4}, []int{2, 5, 4}, true}, {[]int{2, 5, 4}, []int{2, 5, 4, 0}, false},
		{[]int{2, 5, 4}, []int{2, 6}, false}, {[]int{2, 5, 4}, []int{2, 4}, false}, {[]int{2, 5, 4}, []int{3}, false}, {[]int{2, 5, 4}, []int{1}, false},
		{[]int{2, 5, 4}, []int{5, 4}, false}, {[]int{2, 5, 4}, []int{4}, false}, {[]int{2, 5, 4}, []int{2, 4, 5}, false}, {[]int{2, 5, 4}, []int{2, 5, 3}, false},
		{[]int{25}, []int{2}, false}, {[]int{-1, math.MaxInt}, []int{-1}, true}, {[]int{math.MinInt, 0}, []int{math.MinInt, 0}, true}, {[]int{1}, []int{-1}, false},
		{many(1000, 7), many(999, 7), true}, {many(999, 7), many(1000, 7), false},
	} {
		if got := oid.Begins(c.a, c.b); got != c.want {
			t.Errorf("Begins(%d, %d): %t", c.a, c.b, got)
		}
	}
	roomy := []int{2, 5, 4, 3}
	if oid.Begins(roomy[:2], roomy) || oid.Begins(roomy[:0], roomy[:1]) {
		t.Error("what stands behind the end of a list counts")
	}
}
