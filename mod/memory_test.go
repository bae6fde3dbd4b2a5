package mod_test

import (
	"runtime"
	"slices"
	"testing"

	"chancery/api"
	"chancery/mod"
	"chancery/probe"
)

// pairs are arguments, with ones among them of which an answer is the other one, or the modulus but for little, or which are wrong.
func pairs(by api.Nat) [][2]api.Nat {
	var d probe.Draws
	long := append(row(0, 64), 1)
	return [][2]api.Nat{
		{nil, nil}, {{1}, nil}, {nil, {1}}, {{1}, {1}}, {{2}, {1}}, {{1}, {2}}, {by, {1}}, {{1}, by}, {by, by}, {offset(by, -1), {1}}, {{0, 0}, offset(by, -1)},
		{padded(api.Nat{2}, 3), padded(api.Nat{1}, 70)}, {padded(by, 2), padded(by, 60)}, {offset(by, 1), nil}, {d.Number(64), d.Number(8)}, {d.Number(3), d.Number(64)},
		{row(most, 64), row(most, 64)}, {long, {1}}, {{1}, long}, {nil, row(1, 9)}, {long, long},
	}
}

// P2: what is handed in is neither changed nor shared, spare room too; nor do two answers share.
func TestMemory(t *testing.T) {
	for _, by := range []api.Nat{{3}, {9}, {7}, {1, 1}, row(most, 8)} {
		m := made(t, by)
		for _, c := range calls {
			for _, p := range pairs(by) {
				a, wholeA := probe.Roomy(p[0])
				b, wholeB := probe.Roomy(p[1])
				wasA, wasB := slices.Clone(wholeA), slices.Clone(wholeB)
				one, e := c.call(m, a, b)
				two, f := c.call(m, a, b)
				want := slices.Clone(one)
				if e != f || !slices.Equal(one, two) {
					t.Errorf("%s(%x, %x): %x, error %d; again: %x, error %d", c.name, a, b, one, e, two, f)
				}
				probe.Scribble(one, 0x77)
				if !slices.Equal(wholeA, wasA) || !slices.Equal(wholeB, wasB) {
					t.Errorf("%s(%x, %x): an argument is changed", c.name, p[0], p[1])
				}
				probe.Scribble(wholeA, 0x55)
				probe.Scribble(wholeB, 0x55)
				if !slices.Equal(two, want) {
					t.Errorf("%s(%x, %x): the answer shares memory: %x", c.name, p[0], p[1], two)
				}
				if three, g := c.call(m, p[0], p[1]); g != e || !slices.Equal(three, want) {
					t.Errorf("%s(%x, %x): an earlier answer is kept: %x, error %d", c.name, p[0], p[1], three, g)
				}
				if !slices.Equal(m.Modulus(), by) {
					t.Fatalf("%s(%x, %x): the modulus is %x now", c.name, p[0], p[1], m.Modulus())
				}
			}
		}
	}
}

// P2, P7.1: the modulus that New was given, and Modulus's answer, may be changed.
func TestModulusMemory(t *testing.T) {
	for _, by := range moduli() {
		for _, pad := range []int{0, 1, 60} {
			given, whole := probe.Roomy(padded(by, pad))
			was := slices.Clone(whole)
			m := made(t, given)
			if !slices.Equal(whole, was) {
				t.Errorf("New(%x) changes it", by)
			}
			probe.Scribble(whole, 0x55)
			one, two := m.Modulus(), m.Modulus()
			probe.Scribble(one, 0x77)
			if !slices.Equal(two, by) || !slices.Equal(m.Modulus(), by) {
				t.Errorf("of %x, then %x", by, m.Modulus())
			}
			probe.Scribble(two, 0x77)
			for _, a := range []api.Nat{nil, {1}, by, row(most, 64)} {
				wantsAll(t, m, by, a)
			}
		}
	}
}

// wantsAll holds all calls of a number against a reckoning that was made anew.
func wantsAll(t *testing.T, m *mod.Mod, by, a api.Nat) {
	t.Helper()
	fresh := made(t, by)
	for _, c := range calls {
		got, e := c.call(m, a, api.Nat{5})
		want, f := c.call(fresh, a, api.Nat{5})
		if e != f || !slices.Equal(got, want) {
			t.Errorf("modulo %x: %s(%x, 5): %x, error %d; want %x, error %d", by, c.name, a, got, e, want, f)
		}
	}
}

// P2: two reckonings share nothing, though they are made of the same limbs.
func TestTwoReckonings(t *testing.T) {
	by := api.Nat{7, 9}
	one, two := made(t, by), made(t, by[:1])
	by[0] = 11
	three := made(t, by)
	for _, c := range []struct {
		m  *mod.Mod
		by api.Nat
	}{{one, api.Nat{7, 9}}, {two, api.Nat{7}}, {three, api.Nat{11, 9}}} {
		if !slices.Equal(c.m.Modulus(), c.by) {
			t.Errorf("%x; want %x", c.m.Modulus(), c.by)
		}
		hold(t, c.m, api.Nat{most, most, most}, api.Nat{5, 6, 7, 8})
		holdPower(t, c.m, api.Nat{most, most, most}, api.Nat{5, 6, 7, 8})
		holdInverse(t, c.m, api.Nat{most, most, most})
	}
}

// P2: numbers that lie in one row, over each other and over the modulus that New was given.
func TestOverEachOther(t *testing.T) {
	all := api.Nat{1, most, 0, 5, 1 << 63, 7, 0, 0, 9}
	was := slices.Clone(all)
	for _, by := range []api.Nat{all[:2], all[3:6], all[5:8], all[:api.MaxMod]} {
		m := made(t, by)
		for i := range all {
			for j := i; j <= len(all); j++ {
				for k := range all {
					hold(t, m, all[i:j], all[k:])
				}
				if j-i <= api.MaxMod {
					holdPower(t, m, all, all[i:j])
				}
				holdInverse(t, m, all[i:j])
			}
		}
	}
	if !slices.Equal(all, was) {
		t.Errorf("%x", all)
	}
}

// P3: nil and empty lists are alike, in each argument.
func TestNilAndEmpty(t *testing.T) {
	for _, by := range []api.Nat{{3}, {9}, row(most, 8)} {
		m := made(t, by)
		for _, c := range calls {
			for _, p := range [][2]api.Nat{{nil, {}}, {{}, nil}, {{}, {}}} {
				got, e := c.call(m, p[0], p[1])
				want, f := c.call(m, nil, nil)
				if e != f || !slices.Equal(got, want) {
					t.Errorf("%s: %x, error %d; of nil: %x, error %d", c.name, got, e, want, f)
				}
			}
		}
	}
}

// P3, P5: the same is told again, behind errors too, and no goroutine is left.
func TestNothingIsKept(t *testing.T) {
	before := runtime.NumGoroutine()
	m := made(t, api.Nat{15})
	for range 20 {
		notMade(t, api.Nat{4}, api.ErrArg)
		notMade(t, row(1, 9), api.ErrLong)
		got, e := m.Inverse(api.Nat{5})
		wrong(t, "Inverse", m, got, e, api.ErrNone, api.Nat{5})
		got, e = m.Add(row(1, 65), nil)
		wrong(t, "Add", m, got, e, api.ErrLong)
		got, e = m.Exp(api.Nat{2}, row(1, 9))
		wrong(t, "Exp", m, got, e, api.ErrLong)
		hold(t, m, api.Nat{1, most, 3}, api.Nat{most, 2})
		holdPower(t, m, api.Nat{1, most, 3}, api.Nat{most, 2})
		holdInverse(t, m, api.Nat{1, most, 3})
	}
	if after := runtime.NumGoroutine(); after > before {
		t.Errorf("%d goroutines, ahead of it %d", after, before)
	}
}
