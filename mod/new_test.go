package mod_test

import (
	"slices"
	"testing"

	"chancery/api"
	"chancery/mod"
)

// pads are how many limbs 0 may stand behind a number: few, as many as it takes to pass a limit, and more.
var pads = []int{0, 1, 2, 7, 8, 9, 56, 57, 63, 64, 65, 1000}

// notMade fails unless New answers this error, and nothing beside it.
func notMade(t *testing.T, m api.Nat, want api.Errno) {
	t.Helper()
	if r, e := mod.New(m); r != nil || e != want {
		t.Errorf("New(%x): %v, error %d; want error %d", m, r, e, want)
	}
}

// P7.1: odd numbers above 1 of each length, with limbs 0 at the end; Modulus is without these.
func TestNew(t *testing.T) {
	for _, m := range append(moduli(), api.Nat{3}, api.Nat{5}, row(1, 8), row(most, 8), append(api.Nat{1}, power(447)...), append(api.Nat{1}, append(row(0, 6), 1)...)) {
		for _, pad := range pads {
			r := made(t, padded(m, pad))
			if got := r.Modulus(); !slices.Equal(got, m) {
				t.Errorf("New(%x): the modulus is %x", padded(m, pad), got)
			}
			got, e := r.Reduce(offset(m, 2))
			is(t, "Reduce", r, got, e, api.Nat{2}, offset(m, 2))
		}
	}
}

// P7.1: 0, 1, and what is even, the lowest limb 0 or not.
func TestNewOfWhatMayNotBe(t *testing.T) {
	for _, zero := range zeros() {
		notMade(t, zero, api.ErrArg)
	}
	evens := []api.Nat{{2}, {4}, {1 << 63}, {most - 1}, {2, 1}, {0, 3}, {0, 1, 1}, {most - 1, most}, {1 << 63, 1}}
	for n := 1; n <= api.MaxMod; n++ {
		even := row(most, n)
		even[0]--
		evens = append(evens, even, power(64*n-1))
		if n > 1 {
			evens = append(evens, power(64*n-64), append(api.Nat{0}, row(1, n-1)...), append(row(0, n-1), most))
		}
	}
	for _, m := range append(evens, api.Nat{1}) {
		for _, pad := range pads {
			notMade(t, padded(m, pad), api.ErrArg)
		}
	}
}

// P7.1: more than MaxMod limbs, ahead of what is even; more than MaxLimbs too.
func TestNewOfTooMuch(t *testing.T) {
	for n := api.MaxMod + 1; n <= 70; n++ {
		for _, m := range []api.Nat{row(1, n), row(most, n), row(2, n), power(64*n - 64), power(64*n - 1), append(api.Nat{1}, power(64*n-128)...), append(api.Nat{0}, row(1, n-1)...)} {
			for _, pad := range pads {
				notMade(t, padded(m, pad), api.ErrLong)
			}
		}
	}
	for _, m := range longs() {
		notMade(t, m, api.ErrLong)
	}
}

// P7.1: of nil, and of what New did not make, ahead of all else.
func TestNone(t *testing.T) {
	args := append(append(zeros(), longs()...), api.Nat{1}, api.Nat{7}, row(1, 9), row(most, 64))
	for _, none := range []*mod.Mod{nil, new(mod.Mod), {}} {
		if m := none.Modulus(); len(m) != 0 {
			t.Errorf("Modulus: %x", m)
		}
		for _, c := range calls {
			for _, a := range args {
				for _, b := range args {
					if got, e := c.call(none, a, b); e != api.ErrNil || len(got) != 0 {
						t.Errorf("%s(%x, %x): %x, error %d", c.name, a, b, got, e)
					}
				}
			}
		}
		if len(none.Modulus()) != 0 {
			t.Error("a modulus has come")
		}
	}
}
