package curve_test

import (
	"math/big"
	"testing"

	"chancery/api"
	"chancery/curve"
	"chancery/probe"
)

// same fails unless both sides of a law are one point of the curve.
func same(t *testing.T, law string, one, other api.Point) {
	t.Helper()
	if one != other || !curve.On(one) {
		t.Fatalf("%s: %s and %s", law, show(one), show(other))
	}
}

// P10.5: sums either way round, with the Neg, and with the far point.
func TestEitherWayRound(t *testing.T) {
	l := append(few(), near()...)
	for _, p := range l {
		same(t, "p + -p = far", add(t, p, neg(t, p)), far)
		same(t, "-p + p = far", add(t, neg(t, p), p), far)
		same(t, "-(-p) = p", neg(t, neg(t, p)), p)
		for _, q := range l {
			same(t, "p + q = q + p", add(t, p, q), add(t, q, p))
			same(t, "p + q - q = p", add(t, add(t, p, q), neg(t, q)), p)
		}
	}
}

// P10.5: sums in any brackets; by Sum too, in any order.
func TestBrackets(t *testing.T) {
	l := few()
	for _, p := range l {
		for _, q := range l {
			both := add(t, p, q)
			same(t, "-(p + q) = -p + -q", neg(t, both), add(t, neg(t, p), neg(t, q)))
			for _, r := range l {
				want := add(t, both, r)
				same(t, "(p + q) + r = p + (q + r)", want, add(t, p, add(t, q, r)))
				got, e := curve.Sum(r, p, q)
				same(t, "Sum in another order", want, good(t, "Sum", got, e))
			}
		}
	}
}

// P10.5: in any brackets, of points that look like chance.
func TestBracketsOfChance(t *testing.T) {
	l := append(chances(200), ofWords()[:200]...)
	for i, p := range l {
		q, r := l[(i+1)%len(l)], l[(3*i+7)%len(l)]
		same(t, "(p + q) + r = p + (q + r)", add(t, add(t, p, q), r), add(t, p, add(t, q, r)))
		got, e := curve.Sum(l[:i]...)
		rest, f := curve.Sum(l[i:]...)
		all, g := curve.Sum(l...)
		same(t, "Sum of a beginning and of the rest", add(t, good(t, "Sum", got, e), good(t, "Sum", rest, f)), good(t, "Sum", all, g))
	}
}

// P10.5: n times each point is the far point, and one time less its Neg.
func TestOrderTimes(t *testing.T) {
	l := append(few(), near()...)
	l = append(l, ofWords()[:100]...)
	for _, p := range append(l, chances(50)...) {
		same(t, "n p = far", mul(t, curve.Order(), p), far)
		same(t, "(n - 1) p = -p", mul(t, digest(offset(order, -1)), p), neg(t, p))
		same(t, "(n + 1) p = p", mul(t, digest(offset(order, 1)), p), p)
	}
}

// P10.5: no smaller number makes a point far: its divisors would be n's.
func TestNoOtherOrder(t *testing.T) {
	for _, p := range few()[1:] {
		for _, k := range counts() {
			isFar := new(big.Int).Mod(value(k), order).Sign() == 0
			if got := mul(t, k, p); got.Inf != isFar {
				t.Errorf("%x times %s: %s", k, show(p), show(got))
			}
		}
	}
}

// sums asks of k, l and a point what is promised of them; where k + l has no 32 bytes, of the rest modulo n.
func sums(t *testing.T, k, l api.Digest, p api.Point) {
	t.Helper()
	both := new(big.Int).Add(value(k), value(l))
	if both.Cmp(allOnes) > 0 {
		both.Mod(both, order)
	}
	same(t, "k p + l p = (k + l) p", add(t, mul(t, k, p), mul(t, l, p)), mul(t, digest(both), p))
	k = digest(new(big.Int).Mod(value(k), order))
	l = digest(new(big.Int).Mod(value(l), order))
	both = new(big.Int).Mul(value(k), value(l))
	same(t, "k (l p) = (k l) p", mul(t, k, mul(t, l, p)), mul(t, digest(both.Mod(both, order)), p))
}

// P10.5: k times and l times a point, where k + l is n, above it, or above 32 bytes too.
func TestMultiples(t *testing.T) {
	all := counts()
	for i, p := range few() {
		for j, k := range all {
			sums(t, k, all[(5*j+i)%len(all)], p)
		}
	}
	var d probe.Draws
	for _, p := range chances(50) {
		k, l := api.Digest(d.Bytes(32)), api.Digest(d.Bytes(32))
		sums(t, k, l, p)
		same(t, "k p + k q = k (p + q)", add(t, mul(t, k, p), mul(t, k, base)), mul(t, k, add(t, p, base)))
		same(t, "k -p = -(k p)", mul(t, k, neg(t, p)), neg(t, mul(t, k, p)))
		less := digest(new(big.Int).Sub(order, new(big.Int).Mod(value(k), order)))
		same(t, "k p + (n - k) p = far", add(t, mul(t, k, p), mul(t, less, p)), far)
	}
}
