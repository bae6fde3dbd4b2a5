package nat_test

import (
	"bytes"
	"runtime"
	"slices"
	"testing"

	"chancery/api"
	"chancery/nat"
	"chancery/probe"
)

// reckonings are the calls of two numbers that answer numbers.
var reckonings = []struct {
	name string
	call func(a, b api.Nat) ([]api.Nat, api.Errno)
}{
	{"Add", func(a, b api.Nat) ([]api.Nat, api.Errno) { c, e := nat.Add(a, b); return []api.Nat{c}, e }},
	{"Sub", func(a, b api.Nat) ([]api.Nat, api.Errno) { c, e := nat.Sub(a, b); return []api.Nat{c}, e }},
	{"Mul", func(a, b api.Nat) ([]api.Nat, api.Errno) { c, e := nat.Mul(a, b); return []api.Nat{c}, e }},
	{"Div", func(a, b api.Nat) ([]api.Nat, api.Errno) { q, r, e := nat.Div(a, b); return []api.Nat{q, r}, e }},
	{"Compare, Bits, Bit", func(a, b api.Nat) ([]api.Nat, api.Errno) {
		_, e := nat.Compare(a, b)
		n, _ := nat.Bits(a)
		nat.Bit(a, n)
		return nil, e
	}},
}

// pairs are arguments, with ones among them of which an answer is the other one, or which are wrong.
func pairs() [][2]api.Nat {
	var d probe.Draws
	long := append(row(0, 64), 1)
	return [][2]api.Nat{
		{nil, nil}, {{5}, nil}, {nil, {5}}, {{5, 6}, {1}}, {{5, 6}, {0, 0}}, {{5, 6, 0}, {0}}, {{5, 6}, {0, 7}}, {{5, 6}, {5, 6}},
		{{5, 6, 7}, {0, 1}}, {{most, most}, {most}}, {{1, 0, 0, 0}, {2, 0, 0}}, {{0, 0, 1}, {1 << 63}}, {d.Number(64), d.Number(30)}, {d.Number(30), row(most, 64)},
		{long, {1}}, {{1}, long}, {long, nil}, {padded(row(1, 64), 3), {3, 0}},
	}
}

// equal tells whether two answers are the same.
func equal(a, b []api.Nat) bool {
	return slices.EqualFunc(a, b, func(x, y api.Nat) bool { return slices.Equal(x, y) })
}

// cloned is an answer in memory of its own.
func cloned(l []api.Nat) []api.Nat {
	var out []api.Nat
	for _, a := range l {
		out = append(out, slices.Clone(a))
	}
	return out
}

// P2: what is handed in is neither changed nor shared, spare room too; nor do two answers share, nor the parts of one.
func TestMemory(t *testing.T) {
	for _, c := range reckonings {
		for _, p := range pairs() {
			a, wholeA := probe.Roomy(p[0])
			b, wholeB := probe.Roomy(p[1])
			wasA, wasB := slices.Clone(wholeA), slices.Clone(wholeB)
			one, e := c.call(a, b)
			two, f := c.call(a, b)
			want := cloned(one)
			if e != f || !equal(one, two) {
				t.Errorf("%s(%x, %x): %x, error %d; again: %x, error %d", c.name, a, b, one, e, two, f)
			}
			for i := range one {
				probe.Scribble(one[i], 0x77)
				for j := i + 1; j < len(one); j++ {
					if !slices.Equal(one[j], want[j]) {
						t.Errorf("%s(%x, %x): its answers share memory", c.name, a, b)
					}
				}
			}
			if !slices.Equal(wholeA, wasA) || !slices.Equal(wholeB, wasB) {
				t.Errorf("%s(%x, %x): an argument is changed", c.name, p[0], p[1])
			}
			probe.Scribble(wholeA, 0x55)
			probe.Scribble(wholeB, 0x55)
			if !equal(two, want) {
				t.Errorf("%s(%x, %x): the answer shares memory: %x", c.name, p[0], p[1], two)
			}
			if three, g := c.call(p[0], p[1]); g != e || !equal(three, want) {
				t.Errorf("%s(%x, %x): an earlier answer is kept: %x, error %d", c.name, p[0], p[1], three, g)
			}
		}
	}
}

// P2: numbers that lie in one row, over each other.
func TestOverEachOther(t *testing.T) {
	all := api.Nat{1, most, 0, 5, 1 << 63, 7, 0, 0, 9}
	was := slices.Clone(all)
	for i := range all {
		for j := i; j <= len(all); j++ {
			for k := range all {
				for l := k; l <= len(all); l++ {
					hold(t, all[i:j], all[k:l])
				}
			}
		}
	}
	if !slices.Equal(all, was) {
		t.Errorf("%x", all)
	}
}

// P2: bytes and numbers share nothing.
func TestBytesMemory(t *testing.T) {
	for _, s := range []string{"", "00", "05", "000005", "0102030405060708", "00ffeeddccbbaa99887766"} {
		b, whole := probe.Roomy(probe.Raw(s))
		was := bytes.Clone(whole)
		one, _ := nat.From(b)
		two, _ := nat.From(b)
		want := slices.Clone(one)
		probe.Scribble(one, 0x77)
		if !bytes.Equal(whole, was) || !slices.Equal(two, want) {
			t.Errorf("From(%s): shared, or changed", s)
		}
		a, wholeA := probe.Roomy(want)
		wasA := slices.Clone(wholeA)
		first, _ := nat.Bytes(a)
		second, _ := nat.Bytes(a)
		probe.Scribble(first, 0x77)
		probe.Scribble(b, 0x55)
		if !slices.Equal(two, want) || !slices.Equal(wholeA, wasA) {
			t.Errorf("From(%s), Bytes: shared, or changed", s)
		}
		probe.Scribble(wholeA, 0x55)
		if !bytes.Equal(second, bytes.TrimLeft(probe.Raw(s), "\x00")) {
			t.Errorf("Bytes of %s: %x", s, second)
		}
	}
}

// P3, P5: the same is told again, behind errors too, and no goroutine is left.
func TestNothingIsKept(t *testing.T) {
	before := runtime.NumGoroutine()
	for range 20 {
		notDivided(t, api.Nat{7}, nil, api.ErrZero)
		rest, e := nat.Sub(api.Nat{1}, api.Nat{2})
		wrong(t, "Sub", rest, e, api.ErrSign, api.Nat{1}, api.Nat{2})
		sum, e := nat.Add(row(1, 65), nil)
		wrong(t, "Add", sum, e, api.ErrLong)
		hold(t, api.Nat{1, most, 3}, api.Nat{most, 2})
	}
	if after := runtime.NumGoroutine(); after > before {
		t.Errorf("%d goroutines, ahead of it %d", after, before)
	}
}
