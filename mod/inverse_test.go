package mod_test

import (
	"math/big"
	"testing"

	"chancery/api"
	"chancery/probe"
)

// P7.4: the chapter's examples, and others written out.
func TestInverse(t *testing.T) {
	for _, c := range []struct{ by, a, want api.Nat }{
		{api.Nat{9}, api.Nat{2}, api.Nat{5}},
		{api.Nat{9}, api.Nat{11, 0}, api.Nat{5}},
		{api.Nat{9}, api.Nat{4}, api.Nat{7}},
		{api.Nat{3}, api.Nat{2}, api.Nat{2}},
		{api.Nat{15}, api.Nat{0, 1}, api.Nat{1}},
		{api.Nat{1, 1}, api.Nat{2}, api.Nat{1<<63 + 1}},
		{api.Nat{1, 1}, api.Nat{0, 1}, api.Nat{0, 1}},
		{row(most, 8), power(511), api.Nat{2}},
		{row(most, 8), api.Nat{2}, power(511)},
	} {
		m := made(t, c.by)
		got, e := m.Inverse(c.a)
		is(t, "Inverse", m, got, e, c.want, c.a)
	}
	nine := made(t, api.Nat{9})
	for _, a := range append(zeros(), api.Nat{6}, api.Nat{3}, api.Nat{9}, api.Nat{12, 0}, row(0, 64)) {
		got, e := nine.Inverse(a)
		wrong(t, "Inverse", nine, got, e, api.ErrNone, a)
	}
}

// P7.4: of 0, of 1, of the modulus and what is next to it, as they are and with multiples of the modulus.
func TestInverseNextTo(t *testing.T) {
	for _, by := range moduli() {
		m := made(t, by)
		for _, zero := range zeros() {
			got, e := m.Inverse(zero)
			wrong(t, "Inverse", m, got, e, api.ErrNone, zero)
		}
		for _, k := range []api.Nat{nil, {1}, {2}, {most}, row(most, 56)} {
			a := times(by, k, nil)
			got, e := m.Inverse(a)
			wrong(t, "Inverse", m, got, e, api.ErrNone, a)
			a = times(by, k, api.Nat{1})
			got, e = m.Inverse(a)
			is(t, "Inverse", m, got, e, api.Nat{1}, a)
			a = times(by, k, offset(by, -1))
			got, e = m.Inverse(a)
			is(t, "Inverse", m, got, e, offset(by, -1), a)
			a = times(by, k, api.Nat{2})
			got, e = m.Inverse(a)
			is(t, "Inverse", m, got, e, limbs(new(big.Int).Rsh(value(offset(by, 1)), 1)), a)
		}
	}
}

// P7.4: modulo a prime each number has one, but its multiples.
func TestInverseAtPrimes(t *testing.T) {
	var d probe.Draws
	for _, p := range primes() {
		m := made(t, p)
		for _, a := range append(around(p), d.Number(len(p)), d.Number(len(p)), d.Number(2*len(p)), d.Number(64)) {
			got, e := m.Inverse(a)
			rest, _ := m.Reduce(a)
			if len(rest) == 0 {
				wrong(t, "Inverse", m, got, e, api.ErrNone, a)
				continue
			}
			want, _ := m.Exp(a, offset(p, -2))
			is(t, "Inverse", m, got, e, want, a)
		}
	}
}

// P7.4: numbers that share a divisor with the modulus, and numbers that share none.
func TestInverseAtComposites(t *testing.T) {
	var d probe.Draws
	for _, c := range composites() {
		by := times(c[0], c[1], nil)
		m := made(t, by)
		for _, divisor := range c {
			for _, k := range []api.Nat{{1}, {2}, {4}, {most}, offset(by, -1), row(most, 50), d.Number(50)} {
				a := times(divisor, k, nil)
				got, e := m.Inverse(a)
				wrong(t, "Inverse", m, got, e, api.ErrNone, a)
				for _, near := range []api.Nat{offset(a, 1), offset(a, -1)} {
					holdInverse(t, m, near)
				}
			}
		}
	}
}

// P7.4: numbers of all lengths, modulo numbers of all lengths; by the library.
func TestInverseOfEachLength(t *testing.T) {
	var d probe.Draws
	for _, by := range moduli() {
		m := made(t, by)
		for _, a := range around(by) {
			holdInverse(t, m, a)
		}
		for n := range api.MaxLimbs + 1 {
			holdInverse(t, m, d.Number(n))
		}
		for i := range 64 * len(by) {
			holdInverse(t, m, power(i))
		}
	}
}

// P7.4: each step of Euclid's way has the quotient 1, so that there are as many as can be.
func TestInverseOfFibonacci(t *testing.T) {
	a, b := big.NewInt(1), big.NewInt(2)
	for b.BitLen() <= 64*api.MaxMod {
		if b.Bit(0) == 1 {
			holdInverse(t, made(t, limbs(b)), limbs(a))
		}
		a, b = b, a.Add(a, b)
	}
}
