package curve

import "chancery/api"

// coefficient is the chapter's b, the lowest word first.
var coefficient = plain{0x3bce3c3e27d2604b, 0x651d06b0cc53b0f6, 0xb3ebbd55769886bc, 0x5ac635d8aa3a93e7}

// operations are what the formulas are handed to reckon with: those of any two numbers of the field, and those of b and another one.
type operations struct {
	plus, minus, times func(x, y number) number
	plusB, timesB      func(x number) number
}

func fieldOperations() operations {
	b, _ := lifted(coefficient)
	return operations{plus: number.plus, minus: number.minus, times: number.times, plusB: b.plus, timesB: b.times}
}

// thrice is a number three times.
func (do operations) thrice(x number) number { return do.plus(do.plus(x, x), x) }

// products is the sum of a product and another one.
func (do operations) products(x, y, u, v number) number {
	return do.plus(do.times(x, y), do.times(u, v))
}

// triple is the point x / z, y / z, so that sums need no division; the far point, if z is 0.
type triple struct{ x, y, z number }

func far() triple { return triple{y: one} }

// spread is a point as a triple, and whether it is a point of the curve.
func spread(p api.Point, do operations) (triple, bool) {
	if p.Inf {
		return far(), p == api.Point{Inf: true}
	}
	x, isX := lifted(fromDigest(p.X))
	y, isY := lifted(fromDigest(p.Y))
	return triple{x, y, one}, isX && isY && do.times(y, y) == cubic(x, do)
}

// cubic is what the square of y must be.
func cubic(x number, do operations) number {
	return do.plusB(do.minus(do.times(do.times(x, x), x), do.thrice(x)))
}

// gathered is a triple as a point.
func gathered(t triple, do operations) api.Point {
	if t.z == (number{}) {
		return api.Point{Inf: true}
	}
	over := t.z.inverse()
	return api.Point{X: toDigest(do.times(t.x, over).lowered()), Y: toDigest(do.times(t.y, over).lowered())}
}

// sum is that of two points, by the formulas of Renes, Costello and Batina (2016): other than the chapter's they hold of a point and itself, of one and its Neg and of the far point too, since the order is odd.
func sum(p, q triple, do operations) triple {
	xx, yy, zz := do.times(p.x, q.x), do.times(p.y, q.y), do.times(p.z, q.z)
	xy := do.products(p.x, q.y, p.y, q.x)
	xz := do.products(p.x, q.z, p.z, q.x)
	yz := do.products(p.y, q.z, p.z, q.y)
	u := do.thrice(do.minus(xz, do.timesB(zz)))
	v := do.thrice(do.minus(do.minus(do.timesB(xz), xx), do.thrice(zz)))
	w := do.thrice(do.minus(xx, zz))
	more, less := do.plus(yy, u), do.minus(yy, u)
	return triple{
		x: do.minus(do.times(xy, more), do.times(yz, v)),
		y: do.products(more, less, w, v),
		z: do.products(yz, less, xy, w),
	}
}

// multiple is k times a point: what is reached is doubled at each bit of k, the highest first.
func multiple(k api.Digest, p triple, do operations) triple {
	reached := far()
	for _, eight := range k {
		for range 8 {
			reached = sum(reached, reached, do)
			if eight>>7 == 1 {
				reached = sum(reached, p, do)
			}
			eight <<= 1
		}
	}
	return reached
}
