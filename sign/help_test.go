package sign_test

import (
	"crypto"
	"crypto/ecdsa"
	"crypto/elliptic"
	"crypto/hmac"
	"crypto/sha256"
	"encoding/asn1"
	"fmt"
	"iter"
	"math/big"
	"slices"
	"testing"

	"chancery/api"
	"chancery/probe"
	"chancery/sign"
)

// The curve's numbers, and what is reckoned with them here, by the chapter's words and the library.
var (
	prime   = big16("ffffffff 00000001 00000000 00000000 00000000 ffffffff ffffffff ffffffff")
	bend    = big16("5ac635d8 aa3a93e7 b3ebbd55 769886bc 651d06b0 cc53b0f6 3bce3c3e 27d2604b")
	order   = big16("ffffffff 00000000 ffffffff ffffffff bce6faad a7179e84 f3b9cac2 fc632551")
	allOnes = new(big.Int).Sub(new(big.Int).Lsh(big.NewInt(1), 256), big.NewInt(1))
	base    = api.Point{
		X: digest(big16("6b17d1f2 e12c4247 f8bce6e5 63a440f2 77037d81 2deb33a0 f4a13945 d898c296")),
		Y: digest(big16("4fe342e2 fe1a7f9b 8ee7eb4a 7c0f9e16 2bce3357 6b315ece cbb64068 37bf51f5")),
	}
	far = api.Point{Inf: true}
)

// big16 is the number that digits to the base 16 say.
func big16(digits string) *big.Int { return new(big.Int).SetBytes(probe.Raw(digits)) }

// digest is a number of at most 32 bytes.
func digest(x *big.Int) api.Digest {
	var d api.Digest
	x.FillBytes(d[:])
	return d
}

// hexed is the number that digits to the base 16 say.
func hexed(digits string) api.Digest { return digest(big16(digits)) }

// small is one that an int says.
func small(n int64) api.Digest { return digest(big.NewInt(n)) }

// nAnd is n, and so much more or less.
func nAnd(more int64) api.Digest { return digest(new(big.Int).Add(order, big.NewInt(more))) }

func value(d api.Digest) *big.Int { return new(big.Int).SetBytes(d[:]) }

// rest is a number modulo n.
func rest(x *big.Int) *big.Int { return new(big.Int).Mod(x, order) }

// product is that of numbers, modulo n.
func product(l ...*big.Int) *big.Int {
	x := big.NewInt(1)
	for _, y := range l {
		x = rest(x.Mul(x, y))
	}
	return x
}

// over is what gives 1 with a number, modulo n.
func over(x *big.Int) *big.Int { return new(big.Int).ModInverse(x, order) }

// less is n less a number.
func less(d api.Digest) api.Digest { return digest(new(big.Int).Sub(order, value(d))) }

// turned is a number with one bit another one.
func turned(d api.Digest, bit int) api.Digest {
	d[bit/8] ^= 1 << (bit % 8)
	return d
}

// lift is the point that has this x and an even y, if there is one.
func lift(x *big.Int) (api.Point, bool) {
	y := new(big.Int).Exp(x, big.NewInt(3), prime)
	y.Add(y.Sub(y, new(big.Int).Mul(big.NewInt(3), x)), bend)
	if y = y.ModSqrt(y.Mod(y, prime), prime); y == nil {
		return api.Point{}, false
	}
	if y.Bit(0) == 1 {
		y.Sub(prime, y)
	}
	return api.Point{X: digest(x), Y: digest(y)}, true
}

// combined is u times the base and v times a point, by the library; v is not 0.
func combined(u, v *big.Int, p api.Point) api.Point {
	c := elliptic.P256()
	a, b := c.ScalarBaseMult(u.Bytes())
	x, y := c.ScalarMult(value(p.X), value(p.Y), v.Bytes())
	x, y = c.Add(a, b, x, y)
	return api.Point{X: digest(x), Y: digest(y)}
}

// signer is the point with which Verify meets point p, at R its X modulo n, that S and the digest h.
func signer(p api.Point, s, h api.Digest) api.Point {
	back := over(rest(value(p.X)))
	u := product(rest(value(h)), back)
	return combined(u.Sub(order, u), product(value(s), back), p)
}

// libraryKey is a key of the library.
func libraryKey(t *testing.T, d api.Digest) *ecdsa.PrivateKey {
	t.Helper()
	key, err := ecdsa.ParseRawPrivateKey(elliptic.P256(), d[:])
	if err != nil {
		t.Fatal(err)
	}
	return key
}

// libraryPoint is a key's point.
func libraryPoint(t *testing.T, d api.Digest) api.Point {
	t.Helper()
	b, err := libraryKey(t, d).PublicKey.Bytes()
	if err != nil {
		t.Fatal(err)
	}
	return api.Point{X: api.Digest(b[1:33]), Y: api.Digest(b[33:])}
}

// librarySignature is that of a digest, made without chance.
func librarySignature(t *testing.T, d, h api.Digest) api.Signature {
	t.Helper()
	b, err := libraryKey(t, d).Sign(nil, h[:], crypto.SHA256)
	if err != nil {
		t.Fatal(err)
	}
	return api.Signature{R: digest(pair(t, b).R), S: digest(pair(t, b).S)}
}

// numbers are a signature's, to the library.
type numbers struct{ R, S *big.Int }

// pair is what the library reads.
func pair(t *testing.T, b []byte) numbers {
	t.Helper()
	var n numbers
	if rest, err := asn1.Unmarshal(b, &n); err != nil || len(rest) > 0 {
		t.Fatalf("%x: %v, rest %x", b, err, rest)
	}
	return n
}

// libraryVerify is what the library says of a digest.
func libraryVerify(t *testing.T, q api.Point, s api.Signature, h api.Digest) bool {
	t.Helper()
	key, err := ecdsa.ParseUncompressedPublicKey(elliptic.P256(), slices.Concat([]byte{4}, q.X[:], q.Y[:]))
	if err != nil {
		t.Fatal(err)
	}
	return ecdsa.Verify(key, h[:], value(s.R), value(s.S))
}

// libraryMac is a keyed digest.
func libraryMac(key api.Digest, pieces ...[]byte) api.Digest {
	m := hmac.New(sha256.New, key[:])
	m.Write(slices.Concat(pieces...))
	return api.Digest(m.Sum(nil))
}

// triesOf are the tries, by the chapter's words.
func triesOf(d, h api.Digest) []api.Digest {
	z := digest(rest(value(h)))
	v, k := api.Digest(slices.Repeat([]byte{1}, 32)), api.Digest{}
	k = libraryMac(k, v[:], []byte{0}, d[:], z[:])
	v = libraryMac(k, v[:])
	k = libraryMac(k, v[:], []byte{1}, d[:], z[:])
	v = libraryMac(k, v[:])
	var l []api.Digest
	for range 100 {
		v = libraryMac(k, v[:])
		if x := value(v); x.Sign() > 0 && x.Cmp(order) < 0 {
			l = append(l, v)
		}
		k = libraryMac(k, v[:], []byte{0})
		v = libraryMac(k, v[:])
	}
	return l
}

// by is the signature by a key and a try, by the chapter's words.
func by(t *testing.T, d, h, try api.Digest) api.Signature {
	t.Helper()
	r := rest(value(libraryPoint(t, try).X))
	s := product(r, value(d))
	s = product(s.Add(s, value(h)), over(value(try)))
	return api.Signature{R: digest(r), S: digest(s)}
}

// chance are keys that look like it.
func chance(n int) []api.Digest {
	var draws probe.Draws
	var l []api.Digest
	for len(l) < n {
		if d := rest(new(big.Int).SetBytes(draws.Bytes(32))); d.Sign() > 0 {
			l = append(l, digest(d))
		}
	}
	return l
}

// keys are those of each sort.
func keys() []api.Digest {
	l := []api.Digest{small(1), small(2), small(3), small(5), small(256), {1}, {0x7f}, {0x80}, hexed(rfcKey), nAnd(-3), nAnd(-2), nAnd(-1)}
	return append(l, chance(8)...)
}

// noKeys are what is no key.
func noKeys() []api.Digest {
	return []api.Digest{
		{}, nAnd(0), nAnd(1), nAnd(2), digest(prime), digest(allOnes), turned(digest(allOnes), 255),
		hexed("ffffffff 00000001 00000000 00000000 00000000 00000000 00000000 00000000"),
		hexed("ffffffff 00000000 ffffffff ffffffff bce6faad a7179e84 f3b9cac2 fc632600"),
	}
}

// digests are those at which something changes.
func digests() []api.Digest {
	l := []api.Digest{{}, small(1), nAnd(-1), nAnd(0), nAnd(1), digest(allOnes), {0x80}, digest(prime)}
	return append(l, chance(3)...)
}

// texts are those of each sort.
func texts() [][]byte {
	var draws probe.Draws
	l := [][]byte{nil, {0}, []byte("ab"), []byte("sample")}
	for _, n := range []int{32, 55, 56, 63, 64, 65, 200, 1000} {
		l = append(l, draws.Bytes(n))
	}
	return l
}

// all are what a range tells.
func all(seq iter.Seq[api.Digest]) []api.Digest { return slices.Collect(seq) }

// public and signed fail the test at an error.
func public(t *testing.T, d api.Digest) api.Point {
	t.Helper()
	p, e := sign.Public(d)
	if e != api.OK {
		t.Fatalf("Public(%x): error %d", d, e)
	}
	return p
}

func signed(t *testing.T, d api.Digest, b ...[]byte) api.Signature {
	t.Helper()
	s, e := sign.Sign(d, b...)
	if e != api.OK {
		t.Fatalf("Sign(%x, %x): error %d", d, b, e)
	}
	return s
}

// at is a point, to be read.
func at(p api.Point) string { return fmt.Sprintf("(%x, %x, %t)", p.X, p.Y, p.Inf) }

// show is a signature, to be read.
func show(s api.Signature) string { return fmt.Sprintf("{%x, %x}", s.R, s.S) }

// is fails unless an answer is just this signature, and not wrong.
func is(t *testing.T, what string, got api.Signature, e api.Errno, want api.Signature) {
	t.Helper()
	if e != api.OK || got != want {
		t.Fatalf("%s: %s, error %d; want %s", what, show(got), e, show(want))
	}
}

// refuses fails unless an answer is this error, and else nothing.
func refuses(t *testing.T, what string, got api.Signature, e, want api.Errno) {
	t.Helper()
	if e != want || got != (api.Signature{}) {
		t.Fatalf("%s: %s, error %d; want error %d", what, show(got), e, want)
	}
}
