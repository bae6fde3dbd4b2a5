package mod_test

import (
	"math"
	"math/big"
	"slices"
	"testing"

	"chancery/api"
	"chancery/mod"
	"chancery/nat"
	"chancery/probe"
)

const most = math.MaxUint64

// What package probe has, by short names.
var (
	edges              = probe.Edges()
	row, power, padded = probe.Row, probe.Power, probe.Padded
	zeros, longs       = probe.Zeros, probe.Longs
)

// calls are all that answer a number; those of one number leave the other out.
var calls = []struct {
	name string
	call func(m *mod.Mod, a, b api.Nat) (api.Nat, api.Errno)
}{
	{"Reduce", func(m *mod.Mod, a, _ api.Nat) (api.Nat, api.Errno) { return m.Reduce(a) }},
	{"Add", (*mod.Mod).Add},
	{"Sub", (*mod.Mod).Sub},
	{"Mul", (*mod.Mod).Mul},
	{"Exp", (*mod.Mod).Exp},
	{"Inverse", func(m *mod.Mod, a, _ api.Nat) (api.Nat, api.Errno) { return m.Inverse(a) }},
}

// value is a number, one that may be, as the library has it.
func value(a api.Nat) *big.Int {
	b, e := nat.Bytes(a)
	if e != api.OK {
		panic(e)
	}
	return new(big.Int).SetBytes(b)
}

// limbs are those of a number of the library, one that may be.
func limbs(x *big.Int) api.Nat {
	a, e := nat.From(x.Bytes())
	if e != api.OK {
		panic(e)
	}
	return a
}

// digits is the number that digits to the base 16 say.
func digits(s string) api.Nat {
	a, e := nat.From(probe.Raw(s))
	if e != api.OK {
		panic(e)
	}
	return a
}

// offset is a number, and n more or less.
func offset(a api.Nat, n int64) api.Nat { return limbs(new(big.Int).Add(value(a), big.NewInt(n))) }

// times is a number n times, and a rest.
func times(a, n, rest api.Nat) api.Nat {
	x := new(big.Int).Mul(value(a), value(n))
	return limbs(x.Add(x, value(rest)))
}

// primes are of each length up to MaxMod limbs.
func primes() []api.Nat {
	return []api.Nat{
		{3}, {5}, {7}, {65537}, {1<<61 - 1}, offset(power(64), -59), // the greatest of one limb
		{most, 1<<63 - 1}, // 2 to the power 127, less 1
		offset(power(192), -237),
		digits("ffffffff00000001000000000000000000000000ffffffffffffffffffffffff"), // P-256's field
		digits("ffffffff00000000ffffffffffffffffbce6faada7179e84f3b9cac2fc632551"), // and its order
		offset(power(255), -19),
		offset(power(320), -197),
		offset(power(384), -317),
		offset(power(448), -203),
		offset(power(512), -569), // the greatest of MaxMod limbs
	}
}

// composites are moduli with divisors that are known.
func composites() [][2]api.Nat {
	third := limbs(new(big.Int).Div(value(row(most, 8)), big.NewInt(3)))
	l := [][2]api.Nat{{{3}, {3}}, {{3}, {5}}, {{3}, {7}}, {{15}, {15}}, {{5}, {1<<61 - 1}}, {{641}, {6700417}}, {{274177}, {67280421310721}}, {{3}, third}}
	p := primes()
	for i, a := range p {
		for _, b := range p[i:] {
			if n, _ := nat.Bits(times(a, b, nil)); n <= 512 {
				l = append(l, [2]api.Nat{a, b})
			}
		}
	}
	return l
}

// moduli are of each length: primes, products, and others that have edges for limbs.
func moduli() []api.Nat {
	l := append(primes(), api.Nat{9}, api.Nat{15}, api.Nat{most}, api.Nat{1<<63 + 1}, api.Nat{1<<63 - 1})
	var d probe.Draws
	for n := 2; n <= api.MaxMod; n++ {
		l = append(l, row(most, n), append(row(1, 1), append(row(0, n-2), 1)...), append(row(most, n-1), 1), offset(power(64*n-1), 1))
		a := append(d.Number(n-1), d.Next()|1)
		a[0] |= 1
		l = append(l, a)
	}
	return l
}

// around are numbers at which something changes, of a modulus: none, or next to it and its multiples, or as long as there may be.
func around(m api.Nat) []api.Nat {
	var d probe.Draws
	l := []api.Nat{nil, {1}, {2}, offset(m, -2), offset(m, -1), m, offset(m, 1)}
	for _, k := range []api.Nat{{2}, {3}, {most}, row(most, 56)} {
		l = append(l, times(m, k, offset(m, -1)), offset(times(m, k, nil), -1), times(m, k, nil), times(m, k, api.Nat{1}))
	}
	for _, n := range []int{1, len(m), 2 * len(m), api.MaxLimbs} {
		l = append(l, row(most, n), power(64*n-1), d.Number(n))
	}
	half := new(big.Int).Rsh(value(m), 1)
	return append(l, limbs(half), offset(limbs(half), 1), append(row(0, 63), 1))
}

// made is reckoning modulo m.
func made(t *testing.T, m api.Nat) *mod.Mod {
	t.Helper()
	r, e := mod.New(m)
	if e != api.OK || r == nil {
		t.Fatalf("New(%x): error %d", m, e)
	}
	return r
}

// is fails unless an answer is just these limbs, and not wrong.
func is(t *testing.T, call string, m *mod.Mod, got api.Nat, e api.Errno, want api.Nat, given ...api.Nat) {
	t.Helper()
	if e != api.OK || !slices.Equal(got, want) {
		t.Fatalf("modulo %x: %s%x: %x, error %d; want %x", m.Modulus(), call, given, got, e, want)
	}
}

// wrong fails unless a call answered an error, and nothing beside it.
func wrong(t *testing.T, call string, m *mod.Mod, got api.Nat, e, want api.Errno, given ...api.Nat) {
	t.Helper()
	if e != want || len(got) != 0 {
		t.Fatalf("modulo %x: %s%x: %x, error %d; want error %d", m.Modulus(), call, given, got, e, want)
	}
}

// holdRest holds Reduce against the library.
func holdRest(t *testing.T, m *mod.Mod, a api.Nat) {
	t.Helper()
	got, e := m.Reduce(a)
	is(t, "Reduce", m, got, e, limbs(new(big.Int).Mod(value(a), value(m.Modulus()))), a)
}

// hold holds what is reckoned of two numbers against the library.
func hold(t *testing.T, m *mod.Mod, a, b api.Nat) {
	t.Helper()
	x, y, by := value(a), value(b), value(m.Modulus())
	rest := func(z *big.Int) api.Nat { return limbs(z.Mod(z, by)) } // never below 0
	got, e := m.Add(a, b)
	is(t, "Add", m, got, e, rest(new(big.Int).Add(x, y)), a, b)
	got, e = m.Sub(a, b)
	is(t, "Sub", m, got, e, rest(new(big.Int).Sub(x, y)), a, b)
	got, e = m.Mul(a, b)
	is(t, "Mul", m, got, e, rest(new(big.Int).Mul(x, y)), a, b)
}

// holdPower holds Exp against the library.
func holdPower(t *testing.T, m *mod.Mod, a, e api.Nat) {
	t.Helper()
	got, fault := m.Exp(a, e)
	is(t, "Exp", m, got, fault, limbs(new(big.Int).Exp(value(a), value(e), value(m.Modulus()))), a, e)
}

// holdInverse holds Inverse against the library.
func holdInverse(t *testing.T, m *mod.Mod, a api.Nat) {
	t.Helper()
	by := value(m.Modulus())
	rest := new(big.Int).Mod(value(a), by)
	got, e := m.Inverse(a)
	if new(big.Int).GCD(nil, nil, rest, by).Cmp(big.NewInt(1)) != 0 {
		wrong(t, "Inverse", m, got, e, api.ErrNone, a)
		return
	}
	is(t, "Inverse", m, got, e, limbs(new(big.Int).ModInverse(rest, by)), a)
}
