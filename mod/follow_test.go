package mod_test

import (
	"slices"
	"testing"

	"chancery/api"
	"chancery/mod"
	"chancery/probe"
)

// ring is a reckoning whose calls fail the test at an error.
type ring struct {
	t *testing.T
	m *mod.Mod
}

func (r ring) good(call string, a api.Nat, e api.Errno) api.Nat {
	r.t.Helper()
	if e != api.OK {
		r.t.Fatalf("modulo %x: %s: error %d", r.m.Modulus(), call, e)
	}
	return a
}

func (r ring) add(a, b api.Nat) api.Nat {
	c, e := r.m.Add(a, b)
	return r.good("Add", c, e)
}

func (r ring) sub(a, b api.Nat) api.Nat {
	c, e := r.m.Sub(a, b)
	return r.good("Sub", c, e)
}

func (r ring) mul(a, b api.Nat) api.Nat {
	c, e := r.m.Mul(a, b)
	return r.good("Mul", c, e)
}

func (r ring) exp(a, b api.Nat) api.Nat {
	c, e := r.m.Exp(a, b)
	return r.good("Exp", c, e)
}

func (r ring) rest(a api.Nat) api.Nat {
	c, e := r.m.Reduce(a)
	return r.good("Reduce", c, e)
}

// law is two sides that must be the same.
type law struct {
	name       string
	one, other api.Nat
}

func (r ring) hold(laws []law, given ...api.Nat) {
	r.t.Helper()
	for _, l := range laws {
		if !slices.Equal(l.one, l.other) {
			r.t.Fatalf("modulo %x: %s: of %x: %x and %x", r.m.Modulus(), l.name, given, l.one, l.other)
		}
	}
}

// sums asks of three numbers what a ring has.
func (r ring) sums(a, b, c api.Nat) {
	r.t.Helper()
	r.hold([]law{
		{"a + b = b + a", r.add(a, b), r.add(b, a)},
		{"(a + b) + c = a + (b + c)", r.add(r.add(a, b), c), r.add(a, r.add(b, c))},
		{"a b = b a", r.mul(a, b), r.mul(b, a)},
		{"(a b) c = a (b c)", r.mul(r.mul(a, b), c), r.mul(a, r.mul(b, c))},
		{"a (b + c) = a b + a c", r.mul(a, r.add(b, c)), r.add(r.mul(a, b), r.mul(a, c))},
		{"(a + b) - b = a", r.sub(r.add(a, b), b), r.rest(a)},
		{"(a - b) + b = a", r.add(r.sub(a, b), b), r.rest(a)},
		{"a - b = -(b - a)", r.sub(a, b), r.sub(nil, r.sub(b, a))},
		{"a + 0 = a", r.add(a, nil), r.rest(a)},
		{"a 1 = a", r.mul(a, api.Nat{1}), r.rest(a)},
	}, a, b, c)
}

// powers asks of a number and two exponents, whose sum and product are exponents too.
func (r ring) powers(a, i, j api.Nat) {
	r.t.Helper()
	r.hold([]law{
		{"a^(i + j) = a^i a^j", r.exp(a, times(api.Nat{1}, i, j)), r.mul(r.exp(a, i), r.exp(a, j))},
		{"a^(i j) = (a^i)^j", r.exp(a, times(i, j, nil)), r.exp(r.exp(a, i), j)},
		{"a^(i j) = (a^j)^i", r.exp(a, times(i, j, nil)), r.exp(r.exp(a, j), i)},
	}, a, i, j)
}

// inverses asks of two numbers what their inverses have, and answers whether both have one.
func (r ring) inverses(a, b api.Nat) bool {
	r.t.Helper()
	x, e := r.m.Inverse(a)
	y, f := r.m.Inverse(b)
	z, g := r.m.Inverse(r.mul(a, b))
	if (e == api.OK && f == api.OK) != (g == api.OK) {
		r.t.Fatalf("modulo %x: of %x and %x: errors %d and %d, of the product %d", r.m.Modulus(), a, b, e, f, g)
	}
	if e == api.OK {
		back, fault := r.m.Inverse(x)
		r.hold([]law{{"the inverse of the inverse is a", r.good("Inverse", back, fault), r.rest(a)}, {"a with its inverse is 1", r.mul(a, x), api.Nat{1}}, {"it is reduced", x, r.rest(x)}}, a)
	}
	if g == api.OK {
		r.hold([]law{{"the inverse of a b", z, r.mul(x, y)}}, a, b)
	}
	return g == api.OK
}

// P7.5: sums and products, of numbers next to the modulus and its multiples.
func TestRing(t *testing.T) {
	for _, by := range moduli() {
		r := ring{t, made(t, by)}
		l := []api.Nat{nil, {1}, {2}, offset(by, -1), offset(by, 1), row(most, 64), times(by, row(most, 56), offset(by, -2)), power(64*len(by) - 1)}
		for _, a := range l {
			for _, b := range l {
				for _, c := range l {
					r.sums(a, b, c)
				}
			}
		}
	}
}

// P7.5: sums and products, of numbers of all lengths.
func TestRingOfEachLength(t *testing.T) {
	var d probe.Draws
	for _, by := range moduli() {
		r := ring{t, made(t, by)}
		for n := range api.MaxLimbs + 1 {
			r.sums(d.Number(n), d.Number(api.MaxLimbs-n), d.Number(len(by)))
		}
	}
}

// P7.5: powers, of exponents whose sums and products have MaxMod limbs at most.
func TestPowers(t *testing.T) {
	var d probe.Draws
	for _, by := range moduli() {
		r := ring{t, made(t, by)}
		exponents := []api.Nat{nil, {1}, {3}, {most}, {0, 1}, power(255)}
		for _, a := range []api.Nat{nil, {2}, offset(by, -1), d.Number(len(by)), row(most, 64)} {
			for n, i := range exponents {
				r.powers(a, i, d.Number(4))
				for _, j := range exponents[:n] {
					r.powers(a, i, j)
				}
			}
		}
	}
}

// P7.5: inverses, of small numbers all of them.
func TestInversesOfSmall(t *testing.T) {
	for by := 3; by < 100; by += 6 { // multiples of 3, so that some have none
		r := ring{t, made(t, number(by))}
		for a := range by + 2 {
			for b := range by {
				r.inverses(number(a), number(b))
			}
		}
	}
}

// P7.5: inverses, of numbers with and without divisors of the modulus.
func TestInverses(t *testing.T) {
	var d probe.Draws
	for _, c := range composites() {
		by := times(c[0], c[1], nil)
		r := ring{t, made(t, by)}
		l := []api.Nat{nil, {1}, {2}, c[0], c[1], times(c[0], api.Nat{2}, nil), offset(by, -1), offset(by, 2), times(by, row(most, 40), api.Nat{4}), d.Number(64)}
		both := 0
		for _, a := range l {
			for _, b := range l {
				if r.inverses(a, b) {
					both++
				}
			}
		}
		if both < 16 || both > 64 {
			t.Errorf("modulo %x: %d of %d products have an inverse", by, both, len(l)*len(l))
		}
	}
}
