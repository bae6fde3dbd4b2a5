package curve

import (
	"math/big"
	"testing"

	"chancery/api"
	"chancery/probe"
)

// From outside points alone are seen, whose coordinates meet few of the edges at which numbers of the field carry: so these are held against the library here.

// whole is a row of words as the library has it.
func whole(a plain) *big.Int {
	d := toDigest(a)
	return new(big.Int).SetBytes(d[:])
}

// inWords is a number of the library in words.
func inWords(x *big.Int) plain {
	var d api.Digest
	x.FillBytes(d[:])
	return fromDigest(d)
}

var (
	field = whole(plain{p0, p1, p2, p3})
	shift = new(big.Int).Lsh(big.NewInt(1), 256)                           // 2 to the power 256
	back  = new(big.Int).ModInverse(new(big.Int).Mod(shift, field), field) // 1 over it
)

// numbers are below p: of words at which something changes, near 0, p and other edges, and any.
func numbers() []number {
	var l []number
	keep := func(a plain) {
		if whole(a).Cmp(field) < 0 {
			l = append(l, number(a))
		}
	}
	for row := range probe.Short([]uint64{0, 1, p1, 1<<64 - 1, p3}, words) {
		if len(row) == words {
			keep(plain(row))
		}
	}
	for n := range int64(5) {
		half := new(big.Int).Rsh(field, 1)
		for _, x := range []*big.Int{big.NewInt(n), new(big.Int).Sub(field, big.NewInt(1+n)), new(big.Int).Sub(half, big.NewInt(2-n)), new(big.Int).Sub(new(big.Int).Sub(shift, field), big.NewInt(2-n))} {
			keep(inWords(x))
		}
	}
	var d probe.Draws
	for range 100 {
		keep(plain(d.Number(words)))
		keep(plain{d.Next(), d.Next(), d.Next(), d.Next()})
	}
	b, _ := lifted(coefficient)
	return append(l, one, lift, b)
}

// holds fails unless an answer is below p, and is this number modulo p.
func holds(t *testing.T, what string, got number, want *big.Int, given ...number) {
	t.Helper()
	if x := new(big.Int).Mod(want, field); whole(plain(got)).Cmp(x) != 0 {
		t.Fatalf("%s of %x: %x; want %x", what, given, got, x)
	}
}

func TestNumbersOfTheField(t *testing.T) {
	l := numbers()
	if len(l) < 500 {
		t.Fatalf("%d numbers", len(l))
	}
	for _, a := range l {
		x := whole(plain(a))
		for _, b := range l {
			y := whole(plain(b))
			holds(t, "plus", a.plus(b), new(big.Int).Add(x, y), a, b)
			holds(t, "minus", a.minus(b), new(big.Int).Sub(x, y), a, b)
			z := new(big.Int).Mul(x, y)
			holds(t, "times", a.times(b), z.Mul(z, back), a, b)
		}
	}
}

// Sums that are p, or beside it.
func TestSumsAtTheField(t *testing.T) {
	for _, a := range numbers() {
		x := whole(plain(a))
		for n := range int64(5) {
			y := new(big.Int).Sub(field, x)
			y.Mod(y.Add(y, big.NewInt(n-2)), field)
			b := number(inWords(y))
			holds(t, "plus", a.plus(b), new(big.Int).Add(x, y), a, b)
			holds(t, "minus", a.minus(b), new(big.Int).Sub(x, y), a, b)
		}
	}
}

func TestInverse(t *testing.T) {
	for _, a := range numbers() {
		inverse := a.inverse()
		if a == (number{}) {
			continue
		}
		holds(t, "inverse, times it", a.times(inverse), shift, a)
		holds(t, "inverse of the inverse", inverse.inverse(), whole(plain(a)), a)
	}
}

func TestLiftedAndLowered(t *testing.T) {
	for _, a := range numbers() {
		got, ok := lifted(plain(a))
		holds(t, "lifted", got, new(big.Int).Mul(whole(plain(a)), shift), a)
		if !ok || got.lowered() != plain(a) {
			t.Fatalf("lifted %x: %t, lowered: %x", a, ok, got.lowered())
		}
	}
	most := new(big.Int).Sub(shift, big.NewInt(1))
	for n := range int64(100) {
		for _, x := range []*big.Int{new(big.Int).Add(field, big.NewInt(n)), new(big.Int).Sub(most, big.NewInt(n))} {
			if got, ok := lifted(inWords(x)); ok || got != (number{}) {
				t.Fatalf("lifted %x: %x", x, got)
			}
		}
	}
}

func TestDigests(t *testing.T) {
	var d probe.Draws
	for range 100 {
		digest := api.Digest(d.Bytes(32))
		if got := toDigest(fromDigest(digest)); got != digest {
			t.Fatalf("%x: %x", digest, got)
		}
	}
	if got := toDigest(plain{0x18191a1b1c1d1e1f, 0x1011121314151617, 0x08090a0b0c0d0e0f, 0x0001020304050607}); got != api.Digest(probe.Raw("000102030405060708090a0b0c0d0e0f101112131415161718191a1b1c1d1e1f")) {
		t.Fatalf("%x", got)
	}
}
