package nat_test

import (
	"slices"
	"testing"

	"chancery/api"
	"chancery/nat"
	"chancery/probe"
)

// P6.2: the chapter's examples, and others written out.
func TestAdd(t *testing.T) {
	for _, c := range []struct{ a, b, want api.Nat }{
		{nil, nil, nil},
		{api.Nat{0}, api.Nat{0, 0}, nil},
		{api.Nat{5}, nil, api.Nat{5}},
		{api.Nat{5, 0, 0}, api.Nat{0}, api.Nat{5}},
		{api.Nat{1}, api.Nat{2}, api.Nat{3}},
		{api.Nat{most}, api.Nat{1}, api.Nat{0, 1}},
		{api.Nat{most}, api.Nat{most}, api.Nat{most - 1, 1}},
		{api.Nat{most, most}, api.Nat{1}, api.Nat{0, 0, 1}},
		{api.Nat{most, most}, api.Nat{0, 1}, api.Nat{most, 0, 1}},
		{api.Nat{1 << 63, 1 << 63}, api.Nat{1 << 63, 1<<63 - 1}, api.Nat{0, 0, 1}},
		{api.Nat{1, 2, 3}, api.Nat{10, 20}, api.Nat{11, 22, 3}},
		{api.Nat{0, 0, 1}, api.Nat{1, 0}, api.Nat{1, 0, 1}},
	} {
		sum, e := nat.Add(c.a, c.b)
		is(t, "Add", sum, e, c.want, c.a, c.b)
		sum, e = nat.Add(c.b, c.a)
		is(t, "Add", sum, e, c.want, c.b, c.a)
	}
}

// P6.2
func TestSub(t *testing.T) {
	for _, c := range []struct{ a, b, want api.Nat }{
		{nil, nil, nil},
		{api.Nat{0, 0}, api.Nat{0}, nil},
		{api.Nat{5}, nil, api.Nat{5}},
		{api.Nat{5}, api.Nat{5, 0}, nil},
		{api.Nat{3}, api.Nat{2}, api.Nat{1}},
		{api.Nat{0, 1}, api.Nat{1}, api.Nat{most}},
		{api.Nat{0, 1}, api.Nat{most}, api.Nat{1}},
		{api.Nat{0, 0, 1}, api.Nat{1}, api.Nat{most, most}},
		{api.Nat{0, 0, 1}, api.Nat{0, 1}, api.Nat{0, most}},
		{api.Nat{5, 7, 9}, api.Nat{5, 7, 9}, nil},
		{api.Nat{6, 7, 9}, api.Nat{5, 7, 9}, api.Nat{1}},
		{api.Nat{0, 7, 9}, api.Nat{most, 6, 9}, api.Nat{1}},
	} {
		rest, e := nat.Sub(c.a, c.b)
		is(t, "Sub", rest, e, c.want, c.a, c.b)
	}
	for _, c := range [][2]api.Nat{
		{{1}, {2}}, {nil, {1}}, {{0, 0}, {1}}, {{most}, {0, 1}}, {{most, 0, 0}, {0, 1}}, {{4, 7, 9}, {5, 7, 9}}, {{5, 7, 9}, {0, 8, 9}}, {{9, 9}, {1, 1, 1}},
	} {
		rest, e := nat.Sub(c[0], c[1])
		wrong(t, "Sub", rest, e, api.ErrSign, c[0], c[1])
	}
}

// P6.2: a number taken from itself, from one that is less by 1, and from one that is more by 1; and how these compare.
func TestNextTo(t *testing.T) {
	var d probe.Draws
	for n := 1; n <= api.MaxLimbs; n++ {
		for _, a := range []api.Nat{row(most, n), append(row(most, n-1), 1<<63), power(64*n - 1), power(64*n - 64), append(d.Number(n-1), d.Next()|1)} {
			less, e := nat.Sub(a, api.Nat{1})
			if e != api.OK {
				t.Fatalf("Sub(%x, 1): error %d", a, e)
			}
			rest, e := nat.Sub(a, a)
			is(t, "Sub", rest, e, nil, a, a)
			rest, e = nat.Sub(padded(a, 3), a)
			is(t, "Sub", rest, e, nil, padded(a, 3), a)
			rest, e = nat.Sub(a, less)
			is(t, "Sub", rest, e, api.Nat{1}, a, less)
			rest, e = nat.Sub(less, a)
			wrong(t, "Sub", rest, e, api.ErrSign, less, a)
			rest, e = nat.Sub(padded(less, 66), a)
			wrong(t, "Sub", rest, e, api.ErrSign, less, a)
			compares(t, a, a, 0)
			compares(t, a, padded(a, 2), 0)
			compares(t, a, less, 1)
			compares(t, less, a, -1)
			compares(t, padded(less, 66), a, -1)
			sum, e := nat.Add(less, api.Nat{1})
			is(t, "Add", sum, e, a, less, api.Nat{1})
		}
	}
}

// P6.2
func TestMul(t *testing.T) {
	for _, c := range []struct{ a, b, want api.Nat }{
		{nil, nil, nil},
		{api.Nat{7}, api.Nat{0, 0}, nil},
		{api.Nat{7, 8, 9}, nil, nil},
		{api.Nat{7, 8, 9}, api.Nat{1}, api.Nat{7, 8, 9}},
		{api.Nat{7, 8, 9}, api.Nat{0, 1, 0}, api.Nat{0, 7, 8, 9}},
		{api.Nat{6}, api.Nat{7}, api.Nat{42}},
		{api.Nat{1 << 32}, api.Nat{1 << 32}, api.Nat{0, 1}},
		{api.Nat{most}, api.Nat{most}, api.Nat{1, most - 1}},
		{api.Nat{most}, api.Nat{2}, api.Nat{most - 1, 1}},
		{api.Nat{most, most}, api.Nat{most, most}, api.Nat{1, 0, most - 1, most}},
		{api.Nat{1, 1}, api.Nat{1, 1}, api.Nat{1, 2, 1}},
		{api.Nat{0, 3}, api.Nat{0, 0, 5}, api.Nat{0, 0, 0, 15}},
	} {
		product, e := nat.Mul(c.a, c.b)
		is(t, "Mul", product, e, c.want, c.a, c.b)
		product, e = nat.Mul(c.b, c.a)
		is(t, "Mul", product, e, c.want, c.b, c.a)
	}
}

// P6.2
func TestCompare(t *testing.T) {
	rising := []api.Nat{nil, {1}, {2}, {1<<63 - 1}, {1 << 63}, {most}, {0, 1}, {1, 1}, {most, 1}, {0, 2}, {0, most}, {most, most}, {0, 0, 1}, {1, 0, 1}, {0, 1, 1}, {most, most, most}, row(1, 63), row(0xf, 64), row(most, 64)}
	for i, a := range rising {
		for j, b := range rising {
			want := 0
			if i < j {
				want = -1
			} else if i > j {
				want = 1
			}
			for _, pad := range []int{0, 1, 5, 70} {
				compares(t, padded(a, pad), b, want)
				compares(t, a, padded(b, pad), want)
				compares(t, padded(a, pad), padded(b, pad), want)
			}
		}
	}
}

// P6.2: a carry, and a borrowing, through rows of the greatest limb, of each length.
func TestCarryThrough(t *testing.T) {
	for n := 1; n <= api.MaxLimbs; n++ {
		full, above := row(most, n), append(row(0, n), 1)
		sum, e := nat.Add(full, api.Nat{1})
		is(t, "Add", sum, e, above, full, api.Nat{1})
		sum, e = nat.Add(api.Nat{1, 0}, full)
		is(t, "Add", sum, e, above, api.Nat{1, 0}, full)
		sum, e = nat.Add(full, full)
		is(t, "Add", sum, e, append(append(api.Nat{most - 1}, row(most, n-1)...), 1), full, full)
		for k := 1; k <= api.MaxLimbs; k++ {
			hold(t, full, row(most, k))
		}
		if n == api.MaxLimbs {
			continue
		}
		rest, e := nat.Sub(above, api.Nat{1})
		is(t, "Sub", rest, e, full, above, api.Nat{1})
		rest, e = nat.Sub(above, full)
		is(t, "Sub", rest, e, api.Nat{1}, above, full)
		divides(t, above, full, api.Nat{1}, api.Nat{1})
	}
}

// P6.2: sums and products may have more limbs than a number that may be.
func TestAboveTheLimit(t *testing.T) {
	full := row(most, 64)
	sum, e := nat.Add(full, full)
	is(t, "Add", sum, e, append(append(api.Nat{most - 1}, row(most, 63)...), 1), full, full)
	again, e := nat.Add(sum, api.Nat{1})
	wrong(t, "Add", again, e, api.ErrLong, sum, api.Nat{1})
	product, e := nat.Mul(full, full)
	is(t, "Mul", product, e, slices.Concat(api.Nat{1}, row(0, 63), api.Nat{most - 1}, row(most, 63)), full, full)
	again, e = nat.Mul(product, api.Nat{1})
	wrong(t, "Mul", again, e, api.ErrLong, product, api.Nat{1})
	top := append(row(0, 63), 1)
	product, e = nat.Mul(top, top)
	is(t, "Mul", product, e, append(row(0, 126), 1), top, top)
	product, e = nat.Mul(top, api.Nat{0, 1})
	is(t, "Mul", product, e, append(row(0, 64), 1), top, api.Nat{0, 1})
	product, e = nat.Mul(append(row(0, 63), 1<<63), api.Nat{2})
	is(t, "Mul", product, e, append(row(0, 64), 1), api.Nat{2})
}

// P6.2: limbs 0 at the end, in each argument, as many as there may be.
func TestPadded(t *testing.T) {
	var d probe.Draws
	for _, n := range []int{0, 1, 2, 3, 8, 63, 64} {
		for _, k := range []int{0, 1, 2, 3, 8, 63, 64} {
			a, b := d.Number(n), d.Number(k)
			for _, pad := range [][2]int{{0, 0}, {1, 0}, {0, 1}, {1, 1}, {2, 70}, {70, 2}, {64 - n, 64 - k}, {65 - n, 65 - k}, {1000, 1000}} {
				hold(t, padded(a, pad[0]), padded(b, pad[1]))
			}
		}
	}
}

// P6.2: 0 in each way in which it may be written.
func TestZeros(t *testing.T) {
	for _, zero := range zeros() {
		for _, other := range zeros() {
			hold(t, zero, other)
		}
		for _, a := range []api.Nat{{1}, {most}, {0, 1}, {5, 0}, row(most, 64)} {
			hold(t, a, zero)
			hold(t, zero, a)
		}
	}
}

// P6.2: all pairs of short rows of edges, by the library.
func TestShortRows(t *testing.T) {
	for a := range probe.Short(edges, 3) {
		for b := range probe.Short(edges, 2) {
			hold(t, a, b)
			hold(t, b, a)
		}
	}
}

// P6.2: numbers of all pairs of lengths, by the library.
func TestEachLength(t *testing.T) {
	var d probe.Draws
	for n := range api.MaxLimbs + 1 {
		for k := range api.MaxLimbs + 1 {
			for range 3 {
				hold(t, d.Number(n), d.Number(k))
			}
		}
	}
}

// P6.2: ErrLong ahead of all others, wherever the number stands that may not be.
func TestLong(t *testing.T) {
	others := append(append(zeros(), longs()...), api.Nat{1}, api.Nat{most, most}, row(most, 64))
	for _, long := range longs() {
		for _, other := range others {
			for _, c := range [][2]api.Nat{{long, other}, {other, long}} {
				a, b := c[0], c[1]
				if n, e := nat.Compare(a, b); n != 0 || e != api.ErrLong {
					t.Errorf("Compare(%x, %x): %d, error %d", a, b, n, e)
				}
				got, e := nat.Add(a, b)
				wrong(t, "Add", got, e, api.ErrLong, a, b)
				got, e = nat.Sub(a, b)
				wrong(t, "Sub", got, e, api.ErrLong, a, b)
				got, e = nat.Mul(a, b)
				wrong(t, "Mul", got, e, api.ErrLong, a, b)
				notDivided(t, a, b, api.ErrLong)
			}
		}
	}
}
