package nat_test

import (
	"testing"

	"chancery/api"
	"chancery/nat"
	"chancery/probe"
)

// P6.2
func TestDiv(t *testing.T) {
	for _, c := range []struct{ a, b, quotient, rest api.Nat }{
		{nil, api.Nat{1}, nil, nil},
		{api.Nat{0, 0}, api.Nat{0, 1}, nil, nil},
		{api.Nat{7}, api.Nat{2}, api.Nat{3}, api.Nat{1}},
		{api.Nat{7}, api.Nat{7}, api.Nat{1}, nil},
		{api.Nat{7}, api.Nat{8}, nil, api.Nat{7}},
		{api.Nat{6, 0}, api.Nat{3, 0, 0}, api.Nat{2}, nil},
		{api.Nat{most}, api.Nat{1 << 63}, api.Nat{1}, api.Nat{1<<63 - 1}},
		{api.Nat{0, 1}, api.Nat{3}, api.Nat{6148914691236517205}, api.Nat{1}},
		{api.Nat{0, 1}, api.Nat{most}, api.Nat{1}, api.Nat{1}},
		{api.Nat{0, 1}, api.Nat{1}, api.Nat{0, 1}, nil},
		{api.Nat{1, 2, 3}, api.Nat{0, 1}, api.Nat{2, 3}, api.Nat{1}},
		{api.Nat{1, 2, 3}, api.Nat{0, 0, 1}, api.Nat{3}, api.Nat{1, 2}},
		{api.Nat{1, 2, 3}, api.Nat{0, 0, 0, 1}, nil, api.Nat{1, 2, 3}},
		{api.Nat{most, most, most}, api.Nat{most}, api.Nat{1, 1, 1}, nil},
		{api.Nat{most, most, most, most}, api.Nat{most, most}, api.Nat{1, 0, 1}, nil},
		{api.Nat{0, 0, 1 << 63}, api.Nat{1, 1 << 63}, api.Nat{most}, api.Nat{1, 1<<63 - 1}}, // the highest limbs are alike
		{api.Nat{0, 0, 0, 1 << 63}, api.Nat{1, 0, 1 << 63}, api.Nat{most}, api.Nat{1, most, 1<<63 - 1}},
		{api.Nat{0, most - 1, 1 << 63}, api.Nat{most, 1 << 63}, api.Nat{most}, api.Nat{most, 1<<63 - 1}},
	} {
		divides(t, c.a, c.b, c.quotient, c.rest)
		holdDiv(t, c.a, c.b)
	}
	for _, zero := range zeros() {
		for _, a := range append(zeros(), api.Nat{7}, api.Nat{0, 1}, row(most, 64), padded(row(1, 64), 9)) {
			notDivided(t, a, zero, api.ErrZero)
		}
	}
}

// P6.2: by 1, by itself, by one that is greater by 1 or less by 1, and by 2; of each length.
func TestDivNextTo(t *testing.T) {
	var d probe.Draws
	for n := 1; n <= api.MaxLimbs; n++ {
		for _, a := range []api.Nat{power(64*n - 1), power(64*n - 64), append(d.Number(n-1), 1<<63-1), append(d.Number(n-1), d.Next()/2+2)} {
			divides(t, a, api.Nat{1}, a, nil)
			divides(t, a, a, api.Nat{1}, nil)
			divides(t, a, padded(a, 4), api.Nat{1}, nil)
			more, _ := nat.Add(a, api.Nat{1})
			divides(t, a, more, nil, a)
			holdDiv(t, more, a)
			holdDiv(t, a, api.Nat{2})
			less, _ := nat.Sub(a, api.Nat{1})
			holdDiv(t, a, less)
			divides(t, less, a, nil, less)
		}
		divides(t, row(most, n), api.Nat{1}, row(most, n), nil)
		divides(t, row(most, n), api.Nat{most}, row(1, n), nil)
	}
}

// P6.2: by one limb, whose highest bit is set or not, numbers of each length.
func TestDivByOneLimb(t *testing.T) {
	var d probe.Draws
	for n := range api.MaxLimbs + 1 {
		for _, x := range append(edges, 2, 3, 10, 1<<32-1, 1<<32, 1<<62, most-1, d.Next(), d.Next()>>1|1) {
			for range 10 {
				holdDiv(t, d.Number(n), api.Nat{x})
			}
		}
	}
}

// P6.2: powers of two by each other, so that limbs are moved by each number of bits.
func TestDivPowers(t *testing.T) {
	for i := 0; i < 320; i += 3 {
		for j := range 320 {
			if i >= j {
				divides(t, power(i), power(j), power(i-j), nil)
			} else {
				divides(t, power(i), power(j), nil, power(i))
			}
		}
	}
	for _, i := range []int{0, 63, 64, 2047, 4031, 4032, 4095} {
		divides(t, power(4095), power(i), power(4095-i), nil)
	}
}

// P6.2: all short rows of edges, by the library.
func TestDivShortRows(t *testing.T) {
	for b := range probe.Short(edges, 3) {
		for a := range probe.Short(edges, 4) {
			holdDiv(t, a, b)
		}
	}
}

// P6.2: long rows of edges, the divisor's highest limb being each of them.
func TestDivLongRows(t *testing.T) {
	var d probe.Draws
	for n := 2; n <= api.MaxLimbs; n++ {
		for k := 1; k <= n; k++ {
			for _, top := range edges[1:] {
				a, b := d.Number(n), append(d.Number(k-1), top)
				holdDiv(t, a, b)
				a[n-1] = top // alike at the top, so that the first guess is the greatest limb, or 1
				holdDiv(t, a, b)
				copy(a[n-k:], b)
				a[n-k]--
				holdDiv(t, a, b)
			}
		}
	}
}

// P6.2: what is made of a quotient and a rest that are known.
func TestDivMade(t *testing.T) {
	var d probe.Draws
	for k := 1; k < api.MaxLimbs; k++ {
		for _, top := range []uint64{1, 2, 1<<63 - 1, 1 << 63, 1<<63 + 1, most} {
			b := append(d.Number(k-1), top)
			most1, _ := nat.Sub(b, api.Nat{1}) // the greatest rest
			for m := 1; m <= api.MaxLimbs-k; m += 1 + m/4 {
				for _, q := range []api.Nat{append(d.Number(m-1), 1), append(d.Number(m-1), most), row(most, m), append(row(0, m-1), 1)} {
					for _, r := range []api.Nat{nil, most1} {
						product, _ := nat.Mul(q, b)
						a, _ := nat.Add(product, r)
						divides(t, a, b, q, r)
					}
				}
			}
		}
	}
}
