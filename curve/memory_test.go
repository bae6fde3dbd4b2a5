package curve_test

import (
	"bytes"
	"runtime"
	"slices"
	"testing"

	"chancery/api"
	"chancery/curve"
	"chancery/probe"
)

// P2: Sum leaves its list, and the spare room behind it, also where it refuses.
func TestSumLeavesList(t *testing.T) {
	for _, l := range [][]api.Point{nil, {far}, {base}, {base, base, far}, {base, {}, base}, few()} {
		whole := append(slices.Clone(l), base, api.Point{}, far)
		was := slices.Clone(whole)
		one, e := curve.Sum(whole[:len(l)]...)
		two, f := curve.Sum(whole[:len(l)]...)
		if one != two || e != f || !slices.Equal(whole, was) {
			t.Errorf("Sum of %d: %s, error %d; again: %s, error %d; the list: %v", len(l), show(one), e, show(two), f, whole)
		}
	}
}

// P2: Encode's answers are memory of their own, each.
func TestEncodeMemory(t *testing.T) {
	p := base
	one, _ := curve.Encode(p)
	two, _ := curve.Encode(p)
	probe.Scribble(one, 0x77)
	if !bytes.Equal(two, encoded(base)) || p != base {
		t.Errorf("an answer shares memory: %x, %s", two, show(p))
	}
	three, _ := curve.Encode(base)
	if !bytes.Equal(three, encoded(base)) || curve.Base() != base {
		t.Errorf("an earlier answer is kept: %x", three)
	}
}

// P2: Decode leaves its bytes, also where it refuses, and answers a point of its own.
func TestDecodeMemory(t *testing.T) {
	for _, b := range [][]byte{nil, encoded(base), encoded(turned(base, 9)), encoded(base)[:64], make([]byte, 65)} {
		given, left := probe.RoomyPieces(b)
		p, e := curve.Decode(given[0])
		if !left() {
			t.Errorf("Decode changes its argument, of %d bytes", len(b))
		}
		was := p
		probe.ScribblePieces(given, 0x55)
		if p != was || e == api.OK && p != base {
			t.Errorf("Decode: %s", show(p))
		}
	}
}

// P3: what is answered hangs on nothing ahead of it; P5: no goroutine is left.
func TestNothingIsKept(t *testing.T) {
	before := runtime.NumGoroutine()
	for _, n := range nones()[:20] {
		curve.On(n.p)
		curve.Sum(base, n.p)
		curve.Mul(small(3), n.p)
		curve.Decode(encoded(n.p))
		got, e := curve.Mul(small(2), base)
		is(t, "Mul", got, e, at(multiples[1].x, multiples[1].y))
		got, e = curve.Sum()
		is(t, "Sum of none", got, e, far)
	}
	field, n, p := curve.Field(), curve.Order(), curve.Base()
	field[0], n[0], p.X[0] = 0, 0, 0
	if curve.Field() != digest(prime) || curve.Order() != digest(order) || curve.Base() != base {
		t.Error("a number is another one now")
	}
	if after := runtime.NumGoroutine(); after > before {
		t.Errorf("%d goroutines, ahead of it %d", after, before)
	}
}
