package curve_test

import (
	"crypto/ecdh"
	"encoding/binary"
	"fmt"
	"math/big"
	"testing"

	"chancery/api"
	"chancery/curve"
	"chancery/probe"
)

// The chapter's numbers, and what is reckoned with them here, by its words and the library.
var (
	prime = big16("ffffffff 00000001 00000000 00000000 00000000 ffffffff ffffffff ffffffff")
	bend  = big16("5ac635d8 aa3a93e7 b3ebbd55 769886bc 651d06b0 cc53b0f6 3bce3c3e 27d2604b")
	order = big16("ffffffff 00000000 ffffffff ffffffff bce6faad a7179e84 f3b9cac2 fc632551")
	base  = at("6b17d1f2 e12c4247 f8bce6e5 63a440f2 77037d81 2deb33a0 f4a13945 d898c296",
		"4fe342e2 fe1a7f9b 8ee7eb4a 7c0f9e16 2bce3357 6b315ece cbb64068 37bf51f5")
	far     = api.Point{Inf: true}
	allOnes = new(big.Int).Sub(new(big.Int).Lsh(big.NewInt(1), 256), big.NewInt(1))
)

// big16 is the number that digits to the base 16 say.
func big16(digits string) *big.Int { return new(big.Int).SetBytes(probe.Raw(digits)) }

// at is the point that has these coordinates.
func at(x, y string) api.Point { return api.Point{X: digest(big16(x)), Y: digest(big16(y))} }

// digest is a number of at most 32 bytes.
func digest(x *big.Int) api.Digest {
	var d api.Digest
	x.FillBytes(d[:])
	return d
}

// small is one that an int says.
func small(n int64) api.Digest { return digest(big.NewInt(n)) }

func value(d api.Digest) *big.Int { return new(big.Int).SetBytes(d[:]) }

// offset is a number, and n more or less.
func offset(x *big.Int, n int64) *big.Int { return new(big.Int).Add(x, big.NewInt(n)) }

// rest is a number modulo p.
func rest(x *big.Int) *big.Int { return new(big.Int).Mod(x, prime) }

// product is that of numbers.
func product(l ...*big.Int) *big.Int {
	x := big.NewInt(1)
	for _, y := range l {
		x = rest(x.Mul(x, y))
	}
	return x
}

// cubic is what the square of y must be.
func cubic(x *big.Int) *big.Int {
	y := new(big.Int).Sub(product(x, x, x), product(big.NewInt(3), x))
	return rest(y.Add(y, bend))
}

// lies tells whether a point is one of the curve.
func lies(p api.Point) bool {
	x, y := value(p.X), value(p.Y)
	if p.Inf {
		return x.Sign() == 0 && y.Sign() == 0
	}
	return x.Cmp(prime) < 0 && y.Cmp(prime) < 0 && product(y, y).Cmp(cubic(x)) == 0
}

// across is the Neg of a point that lies on the curve.
func across(p api.Point) api.Point {
	if p.Inf {
		return p
	}
	return api.Point{X: p.X, Y: digest(new(big.Int).Sub(prime, value(p.Y)))}
}

// total is the sum of two points that lie on the curve.
func total(p, q api.Point) api.Point {
	switch {
	case p.Inf:
		return q
	case q.Inf:
		return p
	case q == across(p):
		return far
	}
	x1, y1, x2, y2 := value(p.X), value(p.Y), value(q.X), value(q.Y)
	up, along := new(big.Int).Sub(y2, y1), new(big.Int).Sub(x2, x1)
	if p == q {
		up, along = offset(product(big.NewInt(3), x1, x1), -3), product(big.NewInt(2), y1)
	}
	l := product(up, new(big.Int).ModInverse(rest(along), prime))
	x3 := new(big.Int).Sub(product(l, l), x1)
	x3 = rest(x3.Sub(x3, x2))
	y3 := product(l, new(big.Int).Sub(x1, x3))
	return api.Point{X: digest(x3), Y: digest(rest(y3.Sub(y3, y1)))}
}

// multiple is k times a point that lies on the curve.
func multiple(k *big.Int, p api.Point) api.Point {
	reached := far
	for i := k.BitLen() - 1; i >= 0; i-- {
		reached = total(reached, reached)
		if k.Bit(i) == 1 {
			reached = total(reached, p)
		}
	}
	return reached
}

// libraryMultiple is k times the base, k being above 0 and below n, by another program.
func libraryMultiple(t *testing.T, k api.Digest) api.Point {
	t.Helper()
	key, err := ecdh.P256().NewPrivateKey(k[:])
	if err != nil {
		t.Fatal(err)
	}
	b := key.PublicKey().Bytes()
	return api.Point{X: api.Digest(b[1:33]), Y: api.Digest(b[33:])}
}

// lift is a point that has this x, if there is one.
func lift(x *big.Int) (api.Point, bool) {
	y := new(big.Int).ModSqrt(cubic(x), prime)
	if y == nil {
		return api.Point{}, false
	}
	return api.Point{X: digest(x), Y: digest(y)}, true
}

// chance is a point that looks like it: one that is no multiple that is known.
func chance(d *probe.Draws) api.Point {
	for {
		if p, ok := lift(rest(new(big.Int).SetBytes(d.Bytes(32)))); ok {
			if d.Next()%2 == 0 {
				return across(p)
			}
			return p
		}
	}
}

// chances are n of them.
func chances(n int) []api.Point {
	var d probe.Draws
	var l []api.Point
	for range n {
		l = append(l, chance(&d))
	}
	return l
}

// levels are points with a small y, or with the greatest one that has another writing, p more, of 32 bytes, and of which there are points: three of each y, which lie on one line.
func levels() [][3]api.Point {
	var l [][3]api.Point
	for _, c := range [][4]string{
		{"01", "09e78d4ef60d05f750f6636209092bc43cbdd6b47e11a9de20a9feb2a50bb96c", "6916fac45e568b6b9e2e2ecd611b282e5fcc40a3067d601057f879ce5a8a73cc", "8d0177ebab9c6e9e10db6dd095dbac0d6375e8a97b70f611875d877f0069d2c7"},
		{"04", "7fafb72b9e2f17b87cc216b6785c0bfc860ed577216fd3c8f30a7a8707e613ca", "b06686a59b4e8bbedd0e9275a9d9476d260626aa5367ec7b42f769a182121e22", "cfe9c22cc6825c8aa62f56d3ddcaac9653eb03e08b283fbbc9fe1bd77607ce12"},
		{"09", "14579b00f124175c62981b984b2c07d5b600d0a383e8aacf2a14dddb59bceb8b", "7110468d17744c2425ab8acb1a05aaf31adcf7de81a30e34c6a9dc446d35e55a", "7a981e70f7679c8077bc599c9ace4d372f22377efa7446fc0f4145e0390d2f1a"},
		{"fffffffefffffffffffffffffffffffeffffffffffffffffffffffff", "39d5eaae3158d6bbd2e0696217cc991d0a1eb54306af7e238277ba431e4db995", "4c3ce7b4a75cd97af50d7d3f1dcbe1ee230eb18983d334eddc20c0f46efafe84", "79ed2d9c274a4fca3812195eca6784f4d2d29934757d4ceea16784c872b747e6"},
	} {
		l = append(l, [3]api.Point{at(c[1], c[0]), at(c[2], c[0]), at(c[3], c[0])})
	}
	return l
}

// above is the greatest number that has another writing, p more, of 32 bytes.
func above() *big.Int { return new(big.Int).Sub(allOnes, prime) }

// near are points whose x is near 0 or p or the greatest one that has another writing, or whose y is; of each two.
func near() []api.Point {
	var l []api.Point
	for n := range int64(14) {
		for _, x := range []*big.Int{big.NewInt(n), offset(prime, -1-n), offset(above(), -n)} {
			if p, ok := lift(x); ok {
				l = append(l, p, across(p))
			}
		}
	}
	for _, line := range levels() {
		for _, p := range line {
			l = append(l, p, across(p))
		}
	}
	return l
}

// ofLimbs is the number that four words say, the highest first.
func ofLimbs(row []uint64) api.Digest {
	var d api.Digest
	for i, word := range row {
		binary.BigEndian.PutUint64(d[8*i:], word)
	}
	return d
}

// ofWords are points whose x is made of words at which something changes.
func ofWords() []api.Point {
	var l []api.Point
	for row := range probe.Short(probe.Edges(), 4) {
		if len(row) < 4 {
			continue
		}
		x := value(ofLimbs(row))
		if p, ok := lift(x); ok && x.Cmp(prime) < 0 {
			l = append(l, p)
		}
	}
	return l
}

// few are points of each sort.
func few() []api.Point {
	two := total(base, base)
	l := []api.Point{far, base, across(base), two, across(two), total(two, base)}
	for _, line := range levels()[:2] {
		l = append(l, line[0], across(line[1]), line[2])
	}
	for _, x := range []*big.Int{big.NewInt(0), big.NewInt(5), offset(prime, -3), offset(above(), -1)} {
		p, _ := lift(x)
		l = append(l, p)
	}
	return append(l, chances(3)...)
}

// none is what is no point of the curve.
type none struct {
	what string
	p    api.Point
}

// turned is a point with one bit of X and Y another one.
func turned(p api.Point, bit int) api.Point {
	d := &p.X
	if bit >= 256 {
		d, bit = &p.Y, bit-256
	}
	d[bit/8] ^= 1 << (bit % 8)
	return p
}

// higher are a point's other writings, which modulo p would be right.
func higher(p api.Point) []none {
	x, y := new(big.Int).Add(value(p.X), prime), new(big.Int).Add(value(p.Y), prime)
	var l []none
	if x.Cmp(allOnes) <= 0 {
		l = append(l, none{"X and p more", api.Point{X: digest(x), Y: p.Y}})
	}
	if y.Cmp(allOnes) <= 0 {
		l = append(l, none{"Y and p more", api.Point{X: p.X, Y: digest(y)}})
	}
	return l
}

// nones are what is no point of the curve, of each sort.
func nones() []none {
	l := []none{
		{"nothing", api.Point{}}, {"1 and 1", api.Point{X: small(1), Y: small(1)}}, {"x and y changed over", api.Point{X: base.Y, Y: base.X}},
		{"the base's x", api.Point{X: base.X}}, {"the base's y", api.Point{Y: base.Y}}, {"two points' x and y", api.Point{X: base.X, Y: total(base, base).Y}},
		{"far, and an x", api.Point{Inf: true, X: small(1)}}, {"far, and a y", api.Point{Inf: true, Y: api.Digest{1}}}, {"far, and p", api.Point{Inf: true, X: digest(prime), Y: digest(prime)}},
		{"far, and a point", api.Point{Inf: true, X: base.X, Y: base.Y}},
	}
	for _, n := range []*big.Int{prime, offset(prime, 1), allOnes} {
		l = append(l, none{"a great X", api.Point{X: digest(n), Y: base.Y}}, none{"a great Y", api.Point{X: base.X, Y: digest(n)}}, none{"both great", api.Point{X: digest(n), Y: digest(n)}})
	}
	for _, p := range near() {
		l = append(l, higher(p)...)
	}
	for _, p := range few()[1:] {
		for _, bit := range []int{0, 7, 128, 255, 256, 263, 500, 511} {
			l = append(l, none{"a bit turned", turned(p, bit)})
		}
	}
	return l
}

// show is a point, to be read.
func show(p api.Point) string { return fmt.Sprintf("(%x, %x, %t)", p.X, p.Y, p.Inf) }

// is fails unless an answer is just this point, and not wrong.
func is(t *testing.T, what string, got api.Point, e api.Errno, want api.Point) {
	t.Helper()
	if e != api.OK || got != want {
		t.Fatalf("%s: %s, error %d; want %s", what, show(got), e, show(want))
	}
}

// refuses fails unless an answer is ErrPoint, and else nothing.
func refuses(t *testing.T, what string, got api.Point, e api.Errno) {
	t.Helper()
	if e != api.ErrPoint || got != (api.Point{}) {
		t.Fatalf("%s: %s, error %d; want error %d", what, show(got), e, api.ErrPoint)
	}
}

// neg, add and mul fail the test at an error.
func neg(t *testing.T, p api.Point) api.Point {
	t.Helper()
	q, e := curve.Neg(p)
	return good(t, "Neg", q, e)
}

func add(t *testing.T, p, q api.Point) api.Point {
	t.Helper()
	r, e := curve.Add(p, q)
	return good(t, "Add", r, e)
}

func mul(t *testing.T, k api.Digest, p api.Point) api.Point {
	t.Helper()
	q, e := curve.Mul(k, p)
	return good(t, "Mul", q, e)
}

func good(t *testing.T, call string, p api.Point, e api.Errno) api.Point {
	t.Helper()
	if e != api.OK {
		t.Fatalf("%s: error %d", call, e)
	}
	return p
}
