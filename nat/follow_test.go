package nat_test

import (
	"bytes"
	"slices"
	"testing"

	"chancery/api"
	"chancery/nat"
	"chancery/probe"
)

// add, sub and mul fail at an error.
func add(t *testing.T, a, b api.Nat) api.Nat {
	t.Helper()
	c, e := nat.Add(a, b)
	if e != api.OK {
		t.Fatalf("Add(%x, %x): error %d", a, b, e)
	}
	return c
}

func sub(t *testing.T, a, b api.Nat) api.Nat {
	t.Helper()
	c, e := nat.Sub(a, b)
	if e != api.OK {
		t.Fatalf("Sub(%x, %x): error %d", a, b, e)
	}
	return c
}

func mul(t *testing.T, a, b api.Nat) api.Nat {
	t.Helper()
	c, e := nat.Mul(a, b)
	if e != api.OK {
		t.Fatalf("Mul(%x, %x): error %d", a, b, e)
	}
	return c
}

// follows asks of three numbers what follows of the promises.
func follows(t *testing.T, a, b, c api.Nat) {
	t.Helper()
	for _, law := range []struct {
		name       string
		one, other api.Nat
	}{
		{"a + b = b + a", add(t, a, b), add(t, b, a)},
		{"(a + b) + c = a + (b + c)", add(t, add(t, a, b), c), add(t, a, add(t, b, c))},
		{"a b = b a", mul(t, a, b), mul(t, b, a)},
		{"(a b) c = a (b c)", mul(t, mul(t, a, b), c), mul(t, a, mul(t, b, c))},
		{"a (b + c) = a b + a c", mul(t, a, add(t, b, c)), add(t, mul(t, a, b), mul(t, a, c))},
		{"(a + b) - b + 0 = a + 0", add(t, sub(t, add(t, a, b), b), nil), add(t, a, nil)},
		{"(a + b) - a + 0 = b + 0", add(t, sub(t, add(t, a, b), a), nil), add(t, b, nil)},
	} {
		if !slices.Equal(law.one, law.other) {
			t.Fatalf("%s: a %x, b %x, c %x: %x and %x", law.name, a, b, c, law.one, law.other)
		}
	}
}

// undoes asks that a quotient times b and the rest is a, and the rest below b.
func undoes(t *testing.T, a, b api.Nat) {
	t.Helper()
	q, r, e := nat.Div(a, b)
	if e != api.OK {
		t.Fatalf("Div(%x, %x): error %d", a, b, e)
	}
	compares(t, r, b, -1)
	compares(t, add(t, mul(t, q, b), r), a, 0)
}

// P6.4: short rows of edges.
func TestFollowsShort(t *testing.T) {
	var l []api.Nat
	for a := range probe.Short(edges, 2) {
		l = append(l, a)
	}
	for _, a := range l {
		for _, b := range l {
			for _, c := range l {
				follows(t, a, b, c)
			}
		}
	}
}

// P6.4: longer numbers, while what comes may be.
func TestFollowsLong(t *testing.T) {
	var d probe.Draws
	for n := range 22 {
		for k := range 21 {
			for range 5 {
				follows(t, d.Number(n), d.Number(k), d.Number(62-n-k))
			}
		}
	}
	follows(t, row(most, 21), row(most, 21), row(most, 21))
}

// P6.4: of any limbs, the greatest numbers among them.
func TestDivUndone(t *testing.T) {
	var d probe.Draws
	for n := range api.MaxLimbs + 1 {
		for k := 1; k <= api.MaxLimbs; k++ {
			a, b := d.Number(n), append(d.Number(k-1), d.Next()>>(d.Next()%64)|1)
			undoes(t, a, b)
			undoes(t, padded(a, 1), padded(b, 2))
			undoes(t, row(most, n), b)
		}
	}
}

// P6.4
func TestFromOfBytes(t *testing.T) {
	back := func(a api.Nat) {
		b, e := nat.Bytes(a)
		if e != api.OK || len(b) > 0 && b[0] == 0 {
			t.Fatalf("Bytes(%x): %x, error %d", a, b, e)
		}
		c, e := nat.From(b)
		is(t, "From of Bytes", c, e, limbs(value(a)), a)
		if !bytes.Equal(b, value(a).Bytes()) {
			t.Fatalf("Bytes(%x): %x", a, b)
		}
	}
	for a := range probe.Short(edges, 4) {
		back(a)
	}
	var d probe.Draws
	for n := range api.MaxLimbs + 1 {
		for range 20 {
			back(d.Number(n))
		}
		back(row(most, n))
		back(padded(d.Number(n), 70))
	}
	for i := range 64 * api.MaxLimbs {
		back(power(i))
	}
}
