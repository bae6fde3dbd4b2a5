package curve_test

import (
	"slices"
	"testing"

	"chancery/api"
	"chancery/curve"
)

// P10.2: of each sort of point; twice is none.
func TestNeg(t *testing.T) {
	l := append(few(), near()...)
	l = append(l, ofWords()...)
	l = append(l, chances(50)...)
	for _, p := range l {
		got, e := curve.Neg(p)
		is(t, "Neg", got, e, across(p))
		got, e = curve.Neg(got)
		is(t, "Neg of the Neg", got, e, p)
	}
}

// P10.2: written out.
func TestNegOfBase(t *testing.T) {
	got, e := curve.Neg(base)
	is(t, "Neg", got, e, at("6b17d1f2e12c4247f8bce6e563a440f277037d812deb33a0f4a13945d898c296", "b01cbd1c01e58065711814b583f061e9d431cca994cea1313449bf97c840ae0a"))
	got, e = curve.Neg(far)
	is(t, "Neg of the far point", got, e, far)
}

// P10.2: all pairs: each with itself, its Neg and the far point, and the far point with itself among them.
func TestAdd(t *testing.T) {
	l := append(few(), near()...)
	for _, p := range l {
		for _, q := range l {
			got, e := curve.Add(p, q)
			is(t, "Add", got, e, total(p, q))
		}
	}
}

// P10.2: neighbours among the multiples that are written out.
func TestAddOfMultiples(t *testing.T) {
	for i := range 9 {
		p, next := at(multiples[i].x, multiples[i].y), at(multiples[i+1].x, multiples[i+1].y)
		got, e := curve.Add(p, base)
		is(t, "Add to "+multiples[i].k, got, e, next)
		got, e = curve.Add(next, across(base))
		is(t, "Add to "+multiples[i+1].k, got, e, p)
	}
	ten := at(multiples[9].x, multiples[9].y)
	got, e := curve.Add(ten, ten)
	is(t, "twice 10", got, e, at(multiples[10].x, multiples[10].y))
}

// P10.2: points that look like chance, and such as have edges for words.
func TestAddOfMany(t *testing.T) {
	l := append(ofWords(), chances(300)...)
	for i, p := range l {
		q := l[(7*i+3)%len(l)]
		got, e := curve.Add(p, q)
		is(t, "Add", got, e, total(p, q))
		got, e = curve.Add(p, p)
		is(t, "twice", got, e, total(p, p))
		got, e = curve.Add(p, across(p))
		is(t, "Add of the Neg", got, e, far)
		got, e = curve.Add(p, across(q))
		is(t, "Add of another's Neg", got, e, total(p, across(q)))
	}
}

// P10.2: the far point on either side, and on both.
func TestAddOfFar(t *testing.T) {
	for _, p := range append(near(), few()...) {
		got, e := curve.Add(p, far)
		is(t, "behind", got, e, p)
		got, e = curve.Add(far, p)
		is(t, "ahead", got, e, p)
	}
	got, e := curve.Add(far, far)
	is(t, "both", got, e, far)
}

// P10.2: three points of one line make the far point, as the chapter's sum has it.
func TestAddOnLines(t *testing.T) {
	for _, line := range levels() {
		got, e := curve.Add(line[0], line[1])
		is(t, "two of a line", got, e, across(line[2]))
		got, e = curve.Sum(line[:]...)
		is(t, "three of a line", got, e, far)
	}
}

// P10.2: one that is none on either side, beside each sort of point, and on both.
func TestAddOfNone(t *testing.T) {
	l := nones()
	for i, n := range l {
		for _, p := range []api.Point{far, base, across(base), n.p, l[(i+1)%len(l)].p} {
			got, e := curve.Add(n.p, p)
			refuses(t, "ahead: "+n.what, got, e)
			got, e = curve.Add(p, n.p)
			refuses(t, "behind: "+n.what, got, e)
		}
		got, e := curve.Neg(n.p)
		refuses(t, "Neg of "+n.what, got, e)
	}
}

// totalOf is the sum of a list.
func totalOf(l []api.Point) api.Point {
	reached := far
	for _, p := range l {
		reached = total(reached, p)
	}
	return reached
}

// P10.2: of none, of one, of two.
func TestSumOfFew(t *testing.T) {
	for _, l := range [][]api.Point{nil, {}, {far}, {far, far, far}} {
		got, e := curve.Sum(l...)
		is(t, "Sum of none", got, e, far)
	}
	l := append(few(), near()...)
	for i, p := range l {
		got, e := curve.Sum(p)
		is(t, "Sum of one", got, e, p)
		q := l[(5*i+2)%len(l)]
		got, e = curve.Sum(p, q)
		is(t, "Sum of two", got, e, total(p, q))
	}
}

// P10.2: of many, with the far point at each place; one and its Neg behind each other, or far apart.
func TestSumOfMany(t *testing.T) {
	l := append(few(), near()...)
	l = append(l, chances(100)...)
	for n := range len(l) {
		got, e := curve.Sum(l[:n]...)
		is(t, "Sum of many", got, e, totalOf(l[:n]))
		got, e = curve.Sum(slices.Insert(slices.Clone(l[:20]), n%21, far)...)
		is(t, "Sum with the far point", got, e, totalOf(l[:20]))
	}
	both := slices.Clone(l)
	for _, p := range l {
		both = append(both, across(p))
	}
	got, e := curve.Sum(both...)
	is(t, "Sum of all and their Negs", got, e, far)
	got, e = curve.Sum(append(both, base)...)
	is(t, "Sum of all, their Negs and the base", got, e, base)
}

// P10.2: of one point again and again.
func TestSumOfSame(t *testing.T) {
	for _, p := range few() {
		l := slices.Repeat([]api.Point{p}, 50)
		for _, n := range []int{1, 2, 3, 4, 50} {
			got, e := curve.Sum(l[:n]...)
			is(t, "Sum of one again and again", got, e, totalOf(l[:n]))
		}
	}
}

// P10.2: one that is none at each place.
func TestSumOfNone(t *testing.T) {
	all := few()
	for _, n := range nones() {
		got, e := curve.Sum(n.p)
		refuses(t, "Sum of one: "+n.what, got, e)
		for place := range 6 {
			l := slices.Insert(slices.Clone(all[:5]), place, n.p)
			got, e = curve.Sum(l...)
			refuses(t, "Sum with "+n.what, got, e)
		}
		got, e = curve.Sum(n.p, base, n.p, far, n.p)
		refuses(t, "Sum with more of "+n.what, got, e)
	}
	many := chances(100)
	for place := range len(many) + 1 {
		got, e := curve.Sum(slices.Insert(slices.Clone(many), place, api.Point{X: base.X})...)
		refuses(t, "Sum of many", got, e)
	}
}
