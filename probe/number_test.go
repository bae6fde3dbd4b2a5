package probe_test

import (
	"slices"
	"testing"

	"chancery/api"
	"chancery/probe"
)

func TestNumbers(t *testing.T) {
	for _, c := range []struct{ got, want api.Nat }{
		{probe.Row(7, 0), nil},
		{probe.Row(7, 3), api.Nat{7, 7, 7}},
		{probe.Power(0), api.Nat{1}},
		{probe.Power(63), api.Nat{1 << 63}},
		{probe.Power(64), api.Nat{0, 1}},
		{probe.Padded(api.Nat{5}, 2), api.Nat{5, 0, 0}},
		{probe.Padded(nil, 0), nil},
	} {
		if !slices.Equal(c.got, c.want) {
			t.Errorf("%x; want %x", c.got, c.want)
		}
	}
}

func TestPaddedIsACopy(t *testing.T) {
	a, whole := probe.Roomy(api.Nat{5})
	was := slices.Clone(whole)
	probe.Scribble(probe.Padded(a, 2), 7)
	if !slices.Equal(whole, was) {
		t.Errorf("%x", whole)
	}
}

func TestZerosAndLongs(t *testing.T) {
	for _, a := range probe.Zeros() {
		if slices.ContainsFunc(a, func(x uint64) bool { return x != 0 }) {
			t.Errorf("no 0: %x", a)
		}
	}
	for _, a := range probe.Longs() {
		if !slices.ContainsFunc(a[api.MaxLimbs:], func(x uint64) bool { return x != 0 }) {
			t.Errorf("not long: %x", a)
		}
	}
}

func TestDraws(t *testing.T) {
	var one, other probe.Draws
	for n := range 70 {
		a, b := one.Number(n), other.Number(n)
		if len(a) != n || !slices.Equal(a, b) {
			t.Errorf("%d limbs: %x and %x", n, a, b)
		}
		if a, b := one.Bytes(n), other.Bytes(n); len(a) != n || !slices.Equal(a, b) {
			t.Errorf("%d bytes: %x and %x", n, a, b)
		}
	}
	if one.Next() == one.Next() {
		t.Error("the same again")
	}
}
