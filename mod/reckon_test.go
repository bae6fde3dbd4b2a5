package mod_test

import (
	"math/big"
	"testing"

	"chancery/api"
	"chancery/mod"
	"chancery/probe"
)

// P7.2: the chapter's examples, and others written out.
func TestReckonings(t *testing.T) {
	seven, wide := made(t, api.Nat{7}), made(t, api.Nat{1, 1}) // wide is 2 to the power 64, and 1
	for _, c := range []struct {
		name    string
		m       *mod.Mod
		call    func(m *mod.Mod, a, b api.Nat) (api.Nat, api.Errno)
		a, b    api.Nat
		comesTo api.Nat
	}{
		{"Reduce", seven, calls[0].call, api.Nat{10}, nil, api.Nat{3}},
		{"Add", seven, (*mod.Mod).Add, api.Nat{5}, api.Nat{6}, api.Nat{4}},
		{"Sub", seven, (*mod.Mod).Sub, api.Nat{2}, api.Nat{5}, api.Nat{4}},
		{"Mul", seven, (*mod.Mod).Mul, api.Nat{5}, api.Nat{6}, api.Nat{2}},
		{"Reduce", seven, calls[0].call, api.Nat{7, 0}, nil, nil},
		{"Reduce", seven, calls[0].call, api.Nat{0, 1}, nil, api.Nat{2}},
		{"Add", seven, (*mod.Mod).Add, api.Nat{5}, api.Nat{2}, nil},
		{"Sub", seven, (*mod.Mod).Sub, api.Nat{5}, api.Nat{12}, nil},
		{"Sub", seven, (*mod.Mod).Sub, nil, api.Nat{1}, api.Nat{6}},
		{"Mul", seven, (*mod.Mod).Mul, api.Nat{14}, api.Nat{3}, nil},
		{"Reduce", wide, calls[0].call, api.Nat{0, 1}, nil, api.Nat{0, 1}},
		{"Reduce", wide, calls[0].call, api.Nat{2, 1}, nil, api.Nat{1}},
		{"Add", wide, (*mod.Mod).Add, api.Nat{most}, api.Nat{1}, api.Nat{0, 1}},
		{"Add", wide, (*mod.Mod).Add, api.Nat{0, 1}, api.Nat{0, 1}, api.Nat{most}},
		{"Sub", wide, (*mod.Mod).Sub, nil, api.Nat{1}, api.Nat{0, 1}},
		{"Sub", wide, (*mod.Mod).Sub, nil, api.Nat{0, 1}, api.Nat{1}},
		{"Mul", wide, (*mod.Mod).Mul, api.Nat{0, 1}, api.Nat{0, 1}, api.Nat{1}},
		{"Mul", wide, (*mod.Mod).Mul, api.Nat{1 << 32}, api.Nat{1 << 32}, api.Nat{0, 1}},
	} {
		got, e := c.call(c.m, c.a, c.b)
		is(t, c.name, c.m, got, e, c.comesTo, c.a, c.b)
	}
}

// number is a small number's limbs.
func number(x int) api.Nat {
	if x == 0 {
		return nil
	}
	return api.Nat{uint64(x)}
}

// P7.2, P7.3, P7.4: all small numbers, by plain reckoning.
func TestAllSmall(t *testing.T) {
	for by := 3; by < 40; by += 2 {
		m := made(t, number(by))
		for a := range 2*by + 2 {
			got, e := m.Reduce(number(a))
			is(t, "Reduce", m, got, e, number(a%by), number(a))
			smallInverse(t, m, a, by)
			power := 1
			for b := range 2*by + 2 {
				x, y := number(a), number(b)
				got, e = m.Add(x, y)
				is(t, "Add", m, got, e, number((a+b)%by), x, y)
				got, e = m.Sub(x, y)
				is(t, "Sub", m, got, e, number((a%by+by-b%by)%by), x, y)
				got, e = m.Mul(x, y)
				is(t, "Mul", m, got, e, number(a*b%by), x, y)
				got, e = m.Exp(x, y)
				is(t, "Exp", m, got, e, number(power), x, y)
				power = power * a % by
			}
		}
	}
}

// smallInverse asks for an inverse that is found by trying all numbers.
func smallInverse(t *testing.T, m *mod.Mod, a, by int) {
	t.Helper()
	got, e := m.Inverse(number(a))
	for x := range by {
		if a*x%by == 1 {
			is(t, "Inverse", m, got, e, number(x), number(a))
			return
		}
	}
	wrong(t, "Inverse", m, got, e, api.ErrNone, number(a))
}

// P7.2: numbers next to the modulus and its multiples, and as long as there may be, each with each; by the library.
func TestAroundTheModulus(t *testing.T) {
	for _, by := range moduli() {
		m := made(t, by)
		l := around(by)
		for _, a := range l {
			holdRest(t, m, a)
			for _, b := range l {
				hold(t, m, a, b)
			}
		}
	}
}

// P7.2: the modulus itself, one less, one more, and its multiples.
func TestRests(t *testing.T) {
	for _, by := range moduli() {
		m := made(t, by)
		for _, k := range []api.Nat{nil, {1}, {2}, {most}, {0, 1}, row(most, 56)} {
			for _, rest := range []api.Nat{nil, {1}, {2}, offset(by, -1)} {
				got, e := m.Reduce(times(by, k, rest))
				is(t, "Reduce", m, got, e, rest, times(by, k, rest))
			}
		}
	}
}

// P7.2: a number less itself, less a greater one, less a lesser one, and less one that is the same once it is reduced.
func TestSub(t *testing.T) {
	for _, by := range moduli() {
		m := made(t, by)
		for _, a := range []api.Nat{nil, {1}, {2}, offset(by, -1)} {
			for _, k := range []api.Nat{nil, {1}, {2}, {most}, row(most, 56)} {
				again := times(by, k, a)
				got, e := m.Sub(a, again)
				is(t, "Sub", m, got, e, nil, a, again)
				got, e = m.Sub(again, a)
				is(t, "Sub", m, got, e, nil, again, a)
				got, e = m.Sub(again, again)
				is(t, "Sub", m, got, e, nil, again, again)
				got, e = m.Sub(a, offset(again, 1))
				is(t, "Sub", m, got, e, offset(by, -1), a, offset(again, 1))
				got, e = m.Sub(offset(again, 1), a)
				is(t, "Sub", m, got, e, api.Nat{1}, offset(again, 1), a)
			}
		}
	}
}

// P7.2, P7.3: sums, products and powers that are 0 once they are reduced have no limbs.
func TestComesToNothing(t *testing.T) {
	for _, c := range composites() {
		p, q := c[0], c[1]
		m := made(t, times(p, q, nil))
		for _, a := range []api.Nat{{1}, p, q, offset(m.Modulus(), -1)} {
			other := limbs(new(big.Int).Sub(value(m.Modulus()), value(a)))
			got, e := m.Add(a, other)
			is(t, "Add", m, got, e, nil, a, other)
			other = times(m.Modulus(), row(most, 55), other)
			got, e = m.Add(other, a)
			is(t, "Add", m, got, e, nil, other, a)
		}
		for _, k := range []api.Nat{{1}, {2}, {most}, row(most, 50)} {
			got, e := m.Mul(times(p, k, nil), q)
			is(t, "Mul", m, got, e, nil, p, k, q)
			got, e = m.Mul(q, times(p, k, nil))
			is(t, "Mul", m, got, e, nil, q, p, k)
			got, e = m.Mul(times(m.Modulus(), k, nil), row(most, 64))
			is(t, "Mul", m, got, e, nil, k)
			got, e = m.Exp(times(m.Modulus(), k, nil), row(most, 8))
			is(t, "Exp", m, got, e, nil, k)
		}
	}
}

// P7.2: numbers of all lengths, modulo numbers of all lengths; by the library.
func TestEachLength(t *testing.T) {
	var d probe.Draws
	for n := 1; n <= api.MaxMod; n++ {
		by := append(d.Number(n-1), d.Next()>>1|1)
		by[0] |= 3
		m := made(t, by)
		for i := range api.MaxLimbs + 1 {
			for _, j := range []int{0, 1, n - 1, n, n + 1, 2 * n, 31, 63, 64} {
				a, b := d.Number(i), d.Number(j)
				holdRest(t, m, a)
				hold(t, m, a, b)
				hold(t, m, b, a)
			}
		}
	}
}

// P7.2: products of two numbers of MaxLimbs limbs, which have more limbs than may be.
func TestGreatestProducts(t *testing.T) {
	var d probe.Draws
	for _, by := range moduli() {
		m := made(t, by)
		for _, a := range []api.Nat{row(most, 64), power(4095), append(row(0, 63), 1), append(d.Number(63), 1), append(d.Number(63), most)} {
			for _, b := range []api.Nat{row(most, 64), power(4095), append(d.Number(63), 1<<63)} {
				hold(t, m, a, b)
			}
		}
	}
}

// P7.2: short rows of edges, modulo short rows of edges; by the library.
func TestShortRows(t *testing.T) {
	for by := range probe.Short(edges, 2) {
		if len(by) == 0 || by[0]%2 == 0 || by[0] == 1 && (len(by) == 1 || by[1] == 0) {
			continue
		}
		m := made(t, by)
		for a := range probe.Short(edges, 2) {
			holdRest(t, m, a)
			holdInverse(t, m, a)
			for b := range probe.Short(edges, 2) {
				hold(t, m, a, b)
			}
		}
	}
}

// P7.2, P7.3, P7.4: limbs 0 at the end, in each argument, as many as there may be.
func TestPadded(t *testing.T) {
	var d probe.Draws
	for _, by := range []api.Nat{{7}, {15}, {1, 1}, row(most, 8)} {
		for _, pad := range pads {
			m := made(t, padded(by, pad))
			for _, a := range []api.Nat{nil, {1}, {6}, by, offset(by, 1), row(most, 9), d.Number(64)} {
				for _, b := range []api.Nat{nil, {1}, {9}, offset(by, -1), d.Number(8)} {
					a, b := padded(a, pad), padded(b, 1000-pad)
					holdRest(t, m, a)
					hold(t, m, a, b)
					hold(t, m, b, a)
					holdPower(t, m, a, b)
					holdPower(t, m, b, padded(offset(by, -1), pad))
					holdInverse(t, m, a)
				}
			}
		}
	}
}

// P7.2, P7.3, P7.4: ErrLong, wherever the number stands that may not be; ahead of ErrNone.
func TestLong(t *testing.T) {
	others := append(append(zeros(), longs()...), api.Nat{1}, api.Nat{7}, row(most, 8), row(most, 64))
	for _, by := range []api.Nat{{7}, {9}, {1, 1}, row(most, 8)} {
		m := made(t, by)
		for _, long := range longs() {
			for _, other := range others {
				for _, c := range calls {
					got, e := c.call(m, long, other)
					wrong(t, c.name, m, got, e, api.ErrLong, long, other)
				}
				for _, c := range calls[1:5] {
					got, e := c.call(m, other, long)
					wrong(t, c.name, m, got, e, api.ErrLong, other, long)
				}
			}
		}
	}
}

// P7.2: 0 in each way in which it may be written.
func TestZeros(t *testing.T) {
	for _, by := range []api.Nat{{3}, {9}, {1, 1}, row(most, 8)} {
		m := made(t, by)
		for _, zero := range zeros() {
			holdRest(t, m, zero)
			for _, a := range append(zeros(), api.Nat{1}, by, row(most, 64)) {
				hold(t, m, a, zero)
				hold(t, m, zero, a)
			}
		}
	}
}
