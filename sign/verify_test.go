package sign_test

import (
	"crypto/sha256"
	"math/big"
	"testing"

	"chancery/api"
	"chancery/probe"
	"chancery/sign"
)

// takes fails unless Verify answers this.
func takes(t *testing.T, what string, want bool, q api.Point, s api.Signature, b ...[]byte) {
	t.Helper()
	if sign.Verify(q, s, b...) != want {
		t.Fatalf("%s: Verify(%s, %s, %q): %t", what, at(q), show(s), b, !want)
	}
}

// P11.4: signatures that are written out, and none of them with another's text or point.
func TestVerify(t *testing.T) {
	for _, c := range signatures {
		q := libraryPoint(t, hexed(c.key))
		s := api.Signature{R: hexed(c.r), S: hexed(c.s)}
		for _, other := range signatures {
			takes(t, "a text", c.text == other.text, q, s, []byte(other.text))
		}
		for _, p := range points {
			takes(t, "a point", hexed(c.key) == hexed(p.key), api.Point{X: hexed(p.x), Y: hexed(p.y)}, s, []byte(c.text))
		}
	}
}

// P11.4: what the library signs without chance, of texts in pieces.
func TestVerifyByLibrary(t *testing.T) {
	for i, d := range keys() {
		text := texts()[i%len(texts())]
		q, s := libraryPoint(t, d), librarySignature(t, d, sha256.Sum256(text))
		for _, pieces := range cuts(text) {
			takes(t, "cut", true, q, s, pieces...)
			takes(t, "cut, and a byte more", false, q, s, append(pieces, []byte{0})...)
			takes(t, "cut, and a byte ahead", false, q, s, append([][]byte{{1}}, pieces...)...)
		}
	}
}

// P11.4: a text of no byte, however it is written.
func TestVerifyNothing(t *testing.T) {
	q, s := libraryPoint(t, small(5)), librarySignature(t, small(5), sha256.Sum256(nil))
	for _, pieces := range [][][]byte{nil, {}, {nil}, {{}}, {nil, {}, nil}, make([][]byte, 1000)} {
		takes(t, "of nothing", true, q, s, pieces...)
	}
	takes(t, "of a byte", false, q, s, []byte{0})
}

// P11.4: what is no point of the curve, and the far point, take nothing.
func TestVerifyWithNoPoint(t *testing.T) {
	q, text := libraryPoint(t, hexed(rfcKey)), []byte("sample")
	s := signed(t, hexed(rfcKey), text)
	takes(t, "its point", true, q, s, text)
	l := []api.Point{
		far, {}, {X: q.X}, {Y: q.Y}, {X: q.Y, Y: q.X}, {X: q.X, Y: base.Y}, {X: q.X, Y: q.Y, Inf: true}, {X: small(1), Y: small(1)},
		{X: digest(prime), Y: q.Y}, {X: digest(allOnes), Y: digest(allOnes)}, {Inf: true, X: small(1)}, {Inf: true, Y: small(1)},
	}
	for bit := range 256 {
		l = append(l, api.Point{X: turned(q.X, bit), Y: q.Y}, api.Point{X: q.X, Y: turned(q.Y, bit)})
	}
	for _, p := range l {
		takes(t, "no point", false, p, s, text)
		takes(t, "no point, and 1", false, p, api.Signature{R: small(1), S: small(1)}, text)
	}
}

// P11.4: with the far point R would be X of so many times the base, which anybody can make.
func TestVerifyWithFarPoint(t *testing.T) {
	text := []byte("ab")
	z := rest(value(sha256.Sum256(text)))
	for _, d := range chance(10) {
		s := api.Signature{R: libraryPoint(t, d).X, S: digest(product(z, over(value(d))))}
		takes(t, "the far point", false, far, s, text)
	}
}

// P11.4: R and S that are 0, n or above.
func TestVerifyOutOfBounds(t *testing.T) {
	text := []byte("sample")
	for _, d := range keys() {
		q, s := libraryPoint(t, d), signed(t, d, text)
		for _, x := range noKeys() {
			takes(t, "R out of bounds", false, q, api.Signature{R: x, S: s.S}, text)
			takes(t, "S out of bounds", false, q, api.Signature{R: s.R, S: x}, text)
			takes(t, "both out of bounds", false, q, api.Signature{R: x, S: x}, text)
		}
	}
	takes(t, "R 0", false, base, api.Signature{S: small(1)})
}

// higher is a number and n more, and whether that has 32 bytes.
func higher(d api.Digest) (api.Digest, bool) {
	x := new(big.Int).Add(value(d), order)
	if x.Cmp(allOnes) > 0 {
		return api.Digest{}, false
	}
	return digest(x), true
}

// P11.4: R and S with n more would be right modulo n, and are not taken.
func TestVerifyHigherNumbers(t *testing.T) {
	text := []byte("ab")
	h := api.Digest(sha256.Sum256(text))
	count := 0
	for x := int64(1); x < 30; x++ {
		p, ok := lift(big.NewInt(x))
		if !ok {
			continue
		}
		count++
		s := api.Signature{R: p.X, S: small(x * x)}
		q := signer(p, s.S, h)
		takes(t, "small numbers", true, q, s, text)
		fits(t, "small numbers", true, q, s, h)
		r, _ := higher(s.R)
		takes(t, "R and n more", false, q, api.Signature{R: r, S: s.S}, text)
		r, _ = higher(s.S)
		takes(t, "S and n more", false, q, api.Signature{R: s.R, S: r}, text)
	}
	if count < 5 {
		t.Errorf("%d points", count)
	}
}

// P11.4: R is X modulo n, where X is next to 0, to n, above it, and to p; of n and above no key and try are known that meet it.
func TestVerifyXAtEdges(t *testing.T) {
	text := []byte("ab")
	h := api.Digest(sha256.Sum256(text))
	for _, start := range []*big.Int{big.NewInt(1), value(nAnd(-30)), value(nAnd(1)), new(big.Int).Sub(prime, big.NewInt(30))} {
		count := 0
		for more := range int64(30) {
			x := new(big.Int).Add(start, big.NewInt(more))
			p, ok := lift(x)
			if s := (api.Signature{R: digest(rest(x)), S: chance(30)[more]}); ok && x.Cmp(order) != 0 {
				count++
				q := signer(p, s.S, h)
				takes(t, "X at an edge", true, q, s, text)
				fits(t, "X at an edge", true, q, s, h)
				takes(t, "another text", false, q, s, []byte("ac"))
				if p.X != s.R {
					takes(t, "X as it is", false, q, api.Signature{R: p.X, S: s.S}, text)
				}
			}
		}
		if count < 5 {
			t.Errorf("from %x on: %d points", start, count)
		}
	}
}

// P11.4: the greatest S and the smallest, of points that take them.
func TestVerifySAtEdges(t *testing.T) {
	text := []byte("ab")
	h := api.Digest(sha256.Sum256(text))
	for _, try := range chance(3) {
		p := libraryPoint(t, try)
		for _, x := range []api.Digest{small(1), small(2), nAnd(-2), nAnd(-1)} {
			s := api.Signature{R: p.X, S: x}
			q := signer(p, s.S, h)
			takes(t, "S at an edge", true, q, s, text)
			fits(t, "S at an edge", true, q, s, h)
			takes(t, "another text", false, q, s, []byte("ac"))
		}
	}
}

// P11.4: S and n - S are both taken, with the key's point and with the one across.
func TestVerifyAcross(t *testing.T) {
	text := []byte("ab")
	for _, d := range keys() {
		s := signed(t, d, text)
		takes(t, "S", true, libraryPoint(t, d), s, text)
		s.S = less(s.S)
		takes(t, "n - S", true, libraryPoint(t, d), s, text)
		takes(t, "n - S, across", false, libraryPoint(t, less(d)), s, text)
		s.R = less(s.R)
		takes(t, "n - R", false, libraryPoint(t, d), s, text)
	}
}

// P11.4: another key's point, and R and S changed over.
func TestVerifyOther(t *testing.T) {
	text := []byte("ab")
	for i, d := range keys() {
		s := signed(t, d, text)
		for j, other := range keys() {
			takes(t, "another key", i == j, libraryPoint(t, other), s, text)
		}
		takes(t, "R and S changed over", false, libraryPoint(t, d), api.Signature{R: s.S, S: s.R}, text)
		takes(t, "R twice", false, libraryPoint(t, d), api.Signature{R: s.R, S: s.R}, text)
		takes(t, "S twice", false, libraryPoint(t, d), api.Signature{R: s.S, S: s.S}, text)
	}
}

// P11.4: a text, an R or an S that is other by one bit.
func TestVerifyTurned(t *testing.T) {
	var draws probe.Draws
	for _, d := range []api.Digest{small(1), nAnd(-1), hexed(rfcKey)} {
		text := draws.Bytes(40)
		q, s := libraryPoint(t, d), signed(t, d, text)
		for bit := range 256 {
			takes(t, "R turned", false, q, api.Signature{R: turned(s.R, bit), S: s.S}, text)
			takes(t, "S turned", false, q, api.Signature{R: s.R, S: turned(s.S, bit)}, text)
		}
		for bit := range 8 * len(text) {
			text[bit/8] ^= 1 << (bit % 8)
			takes(t, "text turned", false, q, s, text)
			text[bit/8] ^= 1 << (bit % 8)
		}
		takes(t, "as it was", true, q, s, text)
	}
}

// fits fails unless Fits answers this of a digest, and the library the same.
func fits(t *testing.T, what string, want bool, q api.Point, s api.Signature, h api.Digest) {
	t.Helper()
	if got, other := sign.Fits(q, s, h), libraryVerify(t, q, s, h); got != want || other != want {
		t.Fatalf("%s: %s, %s, digest %x: %t, the library: %t", what, at(q), show(s), h, got, other)
	}
}

// P11.4: the text's number is the digest modulo n.
func TestVerifyDigestsAtEdges(t *testing.T) {
	for _, d := range keys() {
		q := libraryPoint(t, d)
		for _, h := range digests() {
			s := librarySignature(t, d, h)
			fits(t, "at an edge", true, q, s, h)
			fits(t, "another digest", false, q, s, turned(h, 3))
			fits(t, "the rest", true, q, s, digest(rest(value(h))))
			if great, ok := higher(h); ok {
				fits(t, "n more", true, q, s, great)
			}
		}
	}
}

// P11.4: where u G and v q are the same point, or across from each other, whose sum is the far point.
func TestVerifySamePoints(t *testing.T) {
	for i, d := range keys() {
		q, try := libraryPoint(t, d), chance(20)[i]
		r := value(libraryPoint(t, try).X)
		z := product(r, value(d))
		s := api.Signature{R: digest(r), S: digest(product(big.NewInt(2), z, over(value(try))))}
		fits(t, "twice a point", true, q, s, digest(z))
		fits(t, "the far point", false, q, s, less(digest(z)))
		s.S = small(1)
		fits(t, "the far point", false, q, s, less(digest(z)))
	}
}

// P11.4: points whose key nobody has.
func TestVerifyOfNoKnownKey(t *testing.T) {
	for x := int64(1); x < 20; x++ {
		q, ok := lift(big.NewInt(x))
		if !ok {
			continue
		}
		for i, u := range chance(5) {
			v := chance(10)[9-i]
			r := rest(value(combined(value(u), value(v), q).X))
			s := product(r, over(value(v)))
			fits(t, "forged", true, q, api.Signature{R: digest(r), S: digest(s)}, digest(product(s, value(u))))
		}
	}
}
