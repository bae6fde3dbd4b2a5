package mod_test

import (
	"testing"

	"chancery/api"
	"chancery/probe"
)

// P7.3: the chapter's examples, and others written out.
func TestExp(t *testing.T) {
	for _, c := range []struct{ by, a, e, want api.Nat }{
		{api.Nat{7}, api.Nat{3}, api.Nat{6}, api.Nat{1}},
		{api.Nat{7}, nil, nil, api.Nat{1}},
		{api.Nat{7}, api.Nat{3}, api.Nat{1}, api.Nat{3}},
		{api.Nat{7}, api.Nat{3}, api.Nat{2}, api.Nat{2}},
		{api.Nat{7}, api.Nat{10}, api.Nat{2, 0}, api.Nat{2}},
		{api.Nat{7}, api.Nat{3}, api.Nat{7}, api.Nat{3}}, // the exponent is not reduced
		{api.Nat{7}, api.Nat{3}, api.Nat{0, 1}, api.Nat{4}},
		{api.Nat{9}, api.Nat{3}, api.Nat{1}, api.Nat{3}},
		{api.Nat{9}, api.Nat{3}, api.Nat{2}, nil},
		{api.Nat{9}, nil, api.Nat{1}, nil},
		{api.Nat{9}, api.Nat{18}, row(most, 8), nil},
		{api.Nat{1, 1}, api.Nat{2}, api.Nat{64}, api.Nat{0, 1}},
		{api.Nat{1, 1}, api.Nat{2}, api.Nat{128}, api.Nat{1}},
		{api.Nat{1, 1}, api.Nat{2}, api.Nat{0, 1}, api.Nat{1}},
		{api.Nat{1, 1}, api.Nat{0, 1}, api.Nat{most}, api.Nat{0, 1}},
	} {
		m := made(t, c.by)
		got, fault := m.Exp(c.a, c.e)
		is(t, "Exp", m, got, fault, c.want, c.a, c.e)
	}
}

// P7.3: to the power 0, in each way in which it is written, all is 1; 0 too.
func TestToThePowerNothing(t *testing.T) {
	for _, by := range moduli() {
		m := made(t, by)
		for _, zero := range zeros() {
			for _, a := range append(zeros(), api.Nat{1}, api.Nat{2}, offset(by, -1), by, offset(by, 1), row(most, 64)) {
				got, e := m.Exp(a, zero)
				is(t, "Exp", m, got, e, api.Nat{1}, a, zero)
			}
			got, e := m.Exp(zero, api.Nat{1})
			is(t, "Exp", m, got, e, nil, zero, api.Nat{1})
			got, e = m.Exp(zero, row(most, 8))
			is(t, "Exp", m, got, e, nil, zero, row(most, 8))
		}
	}
}

// P7.3: exponents that are powers of two, and one below and above them.
func TestPowersOfTwo(t *testing.T) {
	for _, by := range []api.Nat{{7}, {1, 1}, digits("ffffffff00000000ffffffffffffffffbce6faada7179e84f3b9cac2fc632551")} {
		m := made(t, by)
		for i := range 64 * api.MaxMod {
			holdPower(t, m, api.Nat{3}, power(i))
			holdPower(t, m, offset(by, -1), offset(power(i), -1))
			holdPower(t, m, api.Nat{5, 6, 7}, offset(power(i), 1))
		}
		holdPower(t, m, api.Nat{3}, row(most, 8))
	}
}

// P7.3: numbers next to the modulus, to exponents of all lengths; by the library.
func TestExponents(t *testing.T) {
	var d probe.Draws
	for _, by := range moduli() {
		m := made(t, by)
		exponents := []api.Nat{{1}, {2}, {3}, offset(by, -1), by, row(most, 8), power(511)}
		for n := range api.MaxMod {
			exponents = append(exponents, append(d.Number(n), d.Next()))
		}
		for _, e := range exponents {
			for _, a := range []api.Nat{nil, {1}, {2}, offset(by, -1), by, offset(by, 1), offset(by, 2), row(most, 64), d.Number(len(by)), d.Number(64)} {
				holdPower(t, m, a, e)
			}
		}
	}
}

// P7.3: small exponents, by multiplying again and again.
func TestSmallExponents(t *testing.T) {
	for _, by := range moduli() {
		m := made(t, by)
		for _, a := range []api.Nat{nil, {2}, {most}, offset(by, -1), row(most, 64)} {
			reached := api.Nat{1}
			for n := range 70 {
				got, e := m.Exp(a, number(n))
				is(t, "Exp", m, got, e, reached, a, number(n))
				reached, _ = m.Mul(reached, a)
			}
		}
	}
}

// P7.3: to the power of a prime each number is itself, modulo that prime.
func TestPrimes(t *testing.T) {
	var d probe.Draws
	for _, p := range primes() {
		if !value(p).ProbablyPrime(20) {
			t.Fatalf("%x is no prime", p)
		}
		m := made(t, p)
		for _, a := range []api.Nat{nil, {1}, {2}, offset(p, -1), d.Number(len(p)), d.Number(64)} {
			rest, _ := m.Reduce(a)
			got, e := m.Exp(a, p)
			is(t, "Exp", m, got, e, rest, a, p)
			want := api.Nat{1}
			if len(rest) == 0 {
				want = nil
			}
			got, e = m.Exp(a, offset(p, -1))
			is(t, "Exp", m, got, e, want, a, offset(p, -1))
		}
	}
}

// P7.3: exponents of MaxMod limbs, of more of which those above are 0, and of more.
func TestLongExponents(t *testing.T) {
	for _, by := range []api.Nat{{3}, {9}, {1, 1}, row(most, 8)} {
		m := made(t, by)
		for _, a := range []api.Nat{nil, {1}, {2}, by, row(most, 64)} {
			for _, e := range []api.Nat{row(1, 8), row(most, 8), power(511), power(448)} {
				for _, pad := range pads {
					holdPower(t, m, a, padded(e, pad))
				}
			}
			for n := api.MaxMod + 1; n <= 66; n++ {
				for _, e := range []api.Nat{power(64*n - 64), power(64*n - 1), row(1, n), row(most, n)} {
					for _, pad := range []int{0, 1, 60, 1000} {
						got, fault := m.Exp(a, padded(e, pad))
						wrong(t, "Exp", m, got, fault, api.ErrLong, a, padded(e, pad))
					}
				}
			}
		}
	}
}
