package curve_test

import (
	"math/big"
	"testing"

	"chancery/api"
	"chancery/curve"
	"chancery/probe"
)

// P10.1
func TestNumbers(t *testing.T) {
	if got := curve.Field(); got != digest(prime) {
		t.Errorf("Field: %x", got)
	}
	if got := curve.Order(); got != digest(order) {
		t.Errorf("Order: %x", got)
	}
	if got := curve.Base(); got != base {
		t.Errorf("Base: %s", show(got))
	}
}

// P10.1: points, ordinary ones and at the edges.
func TestOn(t *testing.T) {
	l := append(few(), near()...)
	l = append(l, ofWords()...)
	l = append(l, chances(200)...)
	for _, c := range multiples {
		l = append(l, at(c.x, c.y))
	}
	for _, p := range l {
		if !lies(p) || !curve.On(p) || !curve.On(across(p)) {
			t.Errorf("%s is not on the curve", show(p))
		}
	}
}

// P10.1: what is none, of each sort.
func TestOnOfNone(t *testing.T) {
	sorts := map[string]int{}
	for _, n := range nones() {
		sorts[n.what]++
		if lies(n.p) || curve.On(n.p) {
			t.Errorf("%s: %s is on the curve", n.what, show(n.p))
		}
	}
	if sorts["X and p more"] < 10 || sorts["Y and p more"] < 10 {
		t.Errorf("%v", sorts)
	}
}

// P10.1: other writings of points, which would be right modulo p: the least ones, and the greatest of which there are points.
func TestOnOfHigher(t *testing.T) {
	zero, _ := lift(big.NewInt(0))
	five, _ := lift(big.NewInt(5))
	most, _ := lift(offset(above(), -1))
	flat := levels()[0][0]
	highest := levels()[3][0]
	for _, c := range []struct {
		right, wrong api.Point
	}{
		{zero, api.Point{X: digest(prime), Y: zero.Y}},
		{five, api.Point{X: digest(offset(prime, 5)), Y: five.Y}},
		{most, api.Point{X: digest(offset(allOnes, -1)), Y: most.Y}},
		{flat, api.Point{X: flat.X, Y: digest(offset(prime, 1))}},
		{highest, api.Point{X: highest.X, Y: digest(offset(allOnes, -1))}},
	} {
		if !curve.On(c.right) || curve.On(c.wrong) {
			t.Errorf("%s: %t, %s: %t", show(c.right), curve.On(c.right), show(c.wrong), curve.On(c.wrong))
		}
	}
}

// P10.1: beside the curve by one bit, each one, and by two.
func TestOnBeside(t *testing.T) {
	var d probe.Draws
	for _, p := range append(near(), few()[1:]...) {
		for bit := range 512 {
			q := turned(p, bit)
			if curve.On(q) {
				t.Fatalf("bit %d turned: %s", bit, show(q))
			}
			if r := turned(q, int(d.Next()%512)); r != p && curve.On(r) {
				t.Fatalf("two bits turned: %s", show(r))
			}
		}
	}
}

// P10.1: the far point has no coordinate, not one bit of it.
func TestOnOfFar(t *testing.T) {
	if !curve.On(far) {
		t.Error("the far point is not on the curve")
	}
	for bit := range 512 {
		if p := turned(far, bit); curve.On(p) {
			t.Errorf("bit %d turned: %s", bit, show(p))
		}
	}
	for _, p := range append(near(), chances(5)...) {
		p.Inf = true
		if curve.On(p) {
			t.Errorf("far, and a point: %s", show(p))
		}
	}
}

// P10.1: any coordinates, most of which have edges, and any x with roots of the other numbers.
func TestOnOfAny(t *testing.T) {
	var d probe.Draws
	on := 0
	for range 3000 {
		p := api.Point{X: ofLimbs(d.Number(4))}
		x := value(p.X)
		for _, square := range []*big.Int{cubic(x), new(big.Int).Sub(prime, cubic(x)), offset(cubic(x), 1), offset(cubic(x), 6)} {
			if y := new(big.Int).ModSqrt(square, prime); y != nil {
				p.Y = digest(y)
			}
			if curve.On(p) != lies(p) {
				t.Fatalf("On(%s): %t", show(p), curve.On(p))
			}
			if lies(p) {
				on++
			}
		}
	}
	if on < 500 {
		t.Errorf("%d points", on)
	}
}
