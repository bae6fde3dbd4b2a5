package der_test

import (
	"bytes"
	"math"
	"testing"

	"chancery/api"
	"chancery/der"
	"chancery/probe"
)

// P1.6: what is one element, and how many there are in it.
func TestCheck(t *testing.T) {
	for _, c := range []struct {
		b     string
		deep  int
		count int
	}{
		{"05 00", 0, 1},
		{"30 00", 0, 1}, // constructed, of no elements
		{"04 01 1f", 0, 1},
		{"04 03 30 01 1f", 0, 1}, // not constructed: its content may be anything
		{"30 03 02 01 05", 1, 2},
		{"30 03 02 01 05", api.MaxDeep, 2},
		{"31 04 05 00 05 00", 1, 3},
		{"a0 02 05 00", 1, 2},
		{"20 02 1e 00", 1, 2},
		{"fe 02 05 00", 1, 2},
		{"de 02 1f 1f", 0, 1},
		{"30 09 30 02 05 00 02 01 05 30 00", 2, 5},
		{"30 06 30 04 30 02 30 00", 3, 4},
	} {
		if n, at, e := der.Check(probe.Raw(c.b), c.deep); n != c.count || at != 0 || e != api.OK {
			t.Errorf("Check(%s, %d): %d, %d, error %d; want %d", c.b, c.deep, n, at, e, c.count)
		}
	}
}

// P1.6: which of the things that are wrong is told, and its place.
func TestCheckFaults(t *testing.T) {
	for _, c := range []struct {
		b    string
		deep int
		at   int
		want api.Errno
	}{
		{"", 0, 0, api.ErrShort},
		{"30 03 02 01 05", 0, 2, api.ErrDeep},
		{"30 02 02 01", 1, 2, api.ErrShort},
		{"05 00 00", 9, 2, api.ErrRest},
		{"05 00 05 00", 9, 2, api.ErrRest},
		{"30 03 02 01 05 00", 1, 5, api.ErrRest},
		{"30 01 1f", 0, 2, api.ErrDeep}, // asked ahead of Take's errors
		{"30 01 04", 0, 2, api.ErrDeep},
		{"30 01 1f", 1, 2, api.ErrTag},
		{"30 02 04 01 07", 1, 2, api.ErrShort},       // the byte behind is not of its bytes
		{"30 01 04 00", 1, 2, api.ErrShort},          // nor of its length's
		{"30 03 04 81 80 00", 1, 2, api.ErrShort},    // ahead of ErrRest
		{"30 02 05 00 1f", 0, 2, api.ErrDeep},        // ahead of ErrRest
		{"30 03 30 05 1f", 2, 2, api.ErrShort},       // an element ahead of those in its content
		{"30 05 30 01 1f 04 05", 2, 4, api.ErrTag},   // from left to right
		{"30 05 05 00 30 01 04", 2, 6, api.ErrShort}, // behind one that is right
		{"30 05 05 00 04 81 01", 1, 4, api.ErrLength},
		{"30 07 30 02 05 00 04 80 00", 2, 6, api.ErrLength},
		{"30 06 05 00 30 02 05 00", 1, 6, api.ErrDeep},
		{"30 06 30 04 05 00 05 00", 1, 4, api.ErrDeep},
		{"30 05 05", 9, 0, api.ErrShort},
	} {
		if n, at, e := der.Check(probe.Raw(c.b), c.deep); n != 0 || at != c.at || e != c.want {
			t.Errorf("Check(%s, %d): %d, %d, error %d; want %d, error %d", c.b, c.deep, n, at, e, c.at, c.want)
		}
	}
	for _, f := range faults {
		if n, at, e := der.Check(probe.Raw(f.b), 0); n != 0 || at != 0 || e != f.want {
			t.Errorf("Check(%s, 0): %d, %d, error %d; want error %d", f.b, n, at, e, f.want)
		}
		if f.b == "" {
			continue
		}
		inner := put(t, 0x30, probe.Raw("05 00"), probe.Raw(f.b))
		if n, at, e := der.Check(inner, 1); n != 0 || at != 4 || e != f.want {
			t.Errorf("Check(%x, 1): %d, %d, error %d; want error %d", inner, n, at, e, f.want)
		}
	}
}

// P1.6: ErrArg ahead of all else, and nothing beside it.
func TestCheckArg(t *testing.T) {
	for _, deep := range []int{-1, -64, math.MinInt, api.MaxDeep + 1, math.MaxInt} {
		for _, b := range [][]byte{nil, {}, {5, 0}, {0x1f}, {5, 0, 0}, {0x30, 2, 5, 0}} {
			if n, at, e := der.Check(b, deep); n != 0 || at != 0 || e != api.ErrArg {
				t.Errorf("Check(%x, %d): %d, %d, error %d", b, deep, n, at, e)
			}
		}
	}
	for _, deep := range []int{0, 1, api.MaxDeep - 1, api.MaxDeep} {
		if n, at, e := der.Check([]byte{5, 0}, deep); n != 1 || at != 0 || e != api.OK {
			t.Errorf("Check(05 00, %d): %d, %d, error %d", deep, n, at, e)
		}
		if n, at, e := der.Check(nil, deep); n != 0 || at != 0 || e != api.ErrShort {
			t.Errorf("Check(none, %d): %d, %d, error %d", deep, n, at, e)
		}
	}
}

// P1.6: n nested elements lie n - 1 deep, whatever deep is.
func TestCheckDeep(t *testing.T) {
	nested := [][]byte{nil}
	for n := 1; n <= api.MaxDeep+10; n++ {
		nested = append(nested, put(t, 0x30, nested[n-1]))
	}
	for deep := range api.MaxDeep + 1 {
		for n := 1; n < len(nested); n++ {
			count, at, e := der.Check(nested[n], deep)
			if n-1 <= deep {
				if count != n || at != 0 || e != api.OK {
					t.Fatalf("%d nested, deep %d: %d, %d, error %d", n, deep, count, at, e)
				}
				continue
			}
			// The first that lies too deep is the one that holds n - deep - 2 others.
			want := len(nested[n]) - len(nested[n-deep-1])
			if count != 0 || at != want || e != api.ErrDeep {
				t.Fatalf("%d nested, deep %d: %d, %d, error %d; want place %d", n, deep, count, at, e, want)
			}
		}
	}
}

// P1.6: very many elements, side by side; and bytes nested far deeper than Check goes.
func TestCheckMany(t *testing.T) {
	side := bytes.Repeat([]byte{5, 0}, 1<<20)
	if n, at, e := der.Check(put(t, 0x30, side), 1); n != 1<<20+1 || at != 0 || e != api.OK {
		t.Errorf("side by side: %d, %d, error %d", n, at, e)
	}
	b := []byte{}
	for range 5000 {
		b = put(t, 0x30, b)
	}
	if n, at, e := der.Check(b, api.MaxDeep); n != 0 || at == 0 || e != api.ErrDeep {
		t.Errorf("far too deep: %d, %d, error %d", n, at, e)
	}
}
