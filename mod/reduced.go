package mod

import (
	"chancery/api"
	"chancery/nat"
)

// The numbers that are handed in here have been reduced: of such nat has no error, since what it is asked for has twice MaxMod limbs at most.

// plus is a sum.
func (m *Mod) plus(a, b api.Nat) api.Nat {
	sum, _ := nat.Add(a, b)
	return m.rest(sum)
}

// minus is a difference, to which the modulus is added where b is more.
func (m *Mod) minus(a, b api.Nat) api.Nat {
	if order, _ := nat.Compare(a, b); order < 0 {
		a, _ = nat.Add(a, m.modulus)
	}
	rest, _ := nat.Sub(a, b)
	return rest
}

// times is a product. One of the two need not be reduced, if it has MaxMod limbs at most.
func (m *Mod) times(a, b api.Nat) api.Nat {
	product, _ := nat.Mul(a, b)
	return m.rest(product)
}

// square is a number's product with itself.
func (m *Mod) square(a api.Nat) api.Nat { return m.times(a, a) }

// rest is a number's rest.
func (m *Mod) rest(a api.Nat) api.Nat {
	_, rest, _ := nat.Div(a, m.modulus)
	return rest
}

// power is a number to the power e, an exponent without limbs 0 at the end, whose bits are gone over, the highest first:
// squaring doubles the exponent that has been reached, multiplying adds 1 to it.
func (m *Mod) power(a, e api.Nat) api.Nat {
	times, square := m.times, (*Mod).square
	reached := api.Nat{1}
	for i := range len(e) {
		limb := e[len(e)-1-i]
		for range limbBits {
			reached = square(m, reached)
			if limb>>(limbBits-1) == 1 {
				reached = times(reached, a)
			}
			limb <<= 1
		}
	}
	return reached
}

// common is the greatest common divisor of a number and the modulus (of 0, the modulus), and a factor whose product with the number is that divisor, reduced.
// It goes Euclid's way: at each step divisor and rest are a times factor and a times next, but for multiples of the modulus.
func (m *Mod) common(a api.Nat) (divisor, factor api.Nat) {
	divisor = m.modulus
	rest, next := a, api.Nat{1}
	for len(rest) > 0 {
		quotient, left, _ := nat.Div(divisor, rest)
		factor, next = next, m.minus(factor, m.times(quotient, next))
		divisor, rest = rest, left
	}
	return divisor, factor
}
