package nat_test

import (
	"math"
	"testing"

	"chancery/api"
	"chancery/nat"
	"chancery/probe"
)

// P6.3
func TestBits(t *testing.T) {
	for _, zero := range zeros() {
		if n, e := nat.Bits(zero); n != 0 || e != api.OK {
			t.Errorf("Bits of 0 in %d limbs: %d, error %d", len(zero), n, e)
		}
	}
	for i := range 64 * api.MaxLimbs {
		at := power(i)
		below, _ := nat.Sub(at, api.Nat{1})
		for _, pad := range []int{0, 1, 64, 65} {
			if n, e := nat.Bits(padded(at, pad)); n != i+1 || e != api.OK {
				t.Fatalf("Bits of 2 to the power %d: %d, error %d", i, n, e)
			}
			if n, e := nat.Bits(padded(below, pad)); n != i || e != api.OK {
				t.Fatalf("Bits of one below 2 to the power %d: %d, error %d", i, n, e)
			}
		}
	}
	if n, e := nat.Bits(row(most, 64)); n != 4096 || e != api.OK {
		t.Errorf("Bits of the greatest number: %d, error %d", n, e)
	}
	for _, long := range longs() {
		if n, e := nat.Bits(long); n != 0 || e != api.ErrLong {
			t.Errorf("Bits(%x): %d, error %d", long, n, e)
		}
	}
}

// P6.3: of any limbs, also more than MaxLimbs, each bit by the library.
func TestBit(t *testing.T) {
	var d probe.Draws
	rows := append(append(longs(), zeros()...), api.Nat{1}, api.Nat{0, 1}, api.Nat{1 << 63}, api.Nat{0, 1 << 63}, api.Nat{most, 0, 1})
	for _, n := range []int{1, 2, 3, 63, 64, 65, 66, 200} {
		rows = append(rows, row(most, n), d.Number(n))
	}
	for _, a := range rows {
		x := value(a)
		for i := -200; i < 64*len(a)+200; i++ {
			want := uint(0)
			if i >= 0 {
				want = x.Bit(i)
			}
			if got := nat.Bit(a, i); got != want {
				t.Fatalf("Bit(%x, %d): %d", a, i, got)
			}
		}
	}
}

// P6.3: places that are none.
func TestBitOutside(t *testing.T) {
	for _, n := range []int{0, 1, 2, 64, 65} {
		a := row(most, n)
		for _, i := range []int{math.MinInt, math.MinInt + 1, math.MinInt + 64, -1 << 32, -4096, -65, -64, -63, -2, -1, 64 * n, 64*n + 1, 1 << 32, 1<<32 + 1, 1 << 38, math.MaxInt - 63, math.MaxInt - 1, math.MaxInt} {
			if nat.Bit(a, i) != 0 {
				t.Errorf("Bit(%d limbs, %d): 1", n, i)
			}
		}
		if n > 0 && (nat.Bit(a, 64*n-1) != 1 || nat.Bit(a, 0) != 1) {
			t.Errorf("the last bit of %d limbs, or the first", n)
		}
	}
	if nat.Bit(api.Nat{1 << 63}, 63) != 1 || nat.Bit(api.Nat{1 << 63}, 64) != 0 || nat.Bit(api.Nat{0, 1}, 64) != 1 || nat.Bit(api.Nat{0, 1}, 63) != 0 {
		t.Error("63 and 64")
	}
}

// P6.3: the bits, weighed, are the number, and the highest of them is the last that Bits counts.
func TestBitsAreTheNumber(t *testing.T) {
	var d probe.Draws
	for n := range api.MaxLimbs + 1 {
		a := d.Number(n)
		count, _ := nat.Bits(a)
		back := make(api.Nat, n)
		for i := range count {
			back[i/64] |= uint64(nat.Bit(a, i)) << (i % 64)
		}
		compares(t, a, back, 0)
		if count > 0 && nat.Bit(a, count-1) != 1 || nat.Bit(a, count) != 0 {
			t.Fatalf("Bits(%x): %d", a, count)
		}
	}
}
