package cert_test

import (
	"bytes"
	"crypto"
	"crypto/ecdsa"
	"crypto/elliptic"
	"crypto/sha256"
	"encoding/asn1"
	"fmt"
	"math/big"
	"slices"
	"testing"

	"chancery/api"
	"chancery/cert"
	"chancery/der"
	"chancery/probe"
	"chancery/sign"
)

// The curve's numbers.
var (
	prime = hexed("ffffffff 00000001 00000000 00000000 00000000 ffffffff ffffffff ffffffff")
	order = hexed("ffffffff 00000000 ffffffff ffffffff bce6faad a7179e84 f3b9cac2 fc632551")
	base  = api.Point{
		X: hexed("6b17d1f2 e12c4247 f8bce6e5 63a440f2 77037d81 2deb33a0 f4a13945 d898c296"),
		Y: hexed("4fe342e2 fe1a7f9b 8ee7eb4a 7c0f9e16 2bce3357 6b315ece cbb64068 37bf51f5"),
	}
	far     = api.Point{Inf: true}
	allOnes = api.Digest(slices.Repeat([]byte{255}, 32))
)

// raw are bytes by digits.
func raw(digits string) []byte { return probe.Raw(digits) }

// hexed is the number that digits to the base 16 say.
func hexed(digits string) api.Digest { return api.Digest(raw(digits)) }

func value(d api.Digest) *big.Int { return new(big.Int).SetBytes(d[:]) }

// plus is a number, and so much more or less.
func plus(d api.Digest, more int64) api.Digest {
	var sum api.Digest
	x := value(d)
	x.Add(x, big.NewInt(more)).FillBytes(sum[:])
	return sum
}

// small is a number that an int says.
func small(n int64) api.Digest { return plus(api.Digest{}, n) }

// less is n less a number.
func less(d api.Digest) api.Digest {
	var rest api.Digest
	new(big.Int).Sub(value(order), value(d)).FillBytes(rest[:])
	return rest
}

// turned is a number with one bit another one.
func turned(d api.Digest, bit int) api.Digest {
	d[bit/8] ^= 1 << (bit % 8)
	return d
}

// libraryKey is a key of the library.
func libraryKey(t *testing.T, d api.Digest) *ecdsa.PrivateKey {
	t.Helper()
	key, err := ecdsa.ParseRawPrivateKey(elliptic.P256(), d[:])
	if err != nil {
		t.Fatal(err)
	}
	return key
}

// libraryPoint is a key's point.
func libraryPoint(t *testing.T, d api.Digest) api.Point {
	t.Helper()
	b, err := libraryKey(t, d).PublicKey.Bytes()
	if err != nil {
		t.Fatal(err)
	}
	return api.Point{X: api.Digest(b[1:33]), Y: api.Digest(b[33:])}
}

// librarySignature is that of bytes, made without chance.
func librarySignature(t *testing.T, d api.Digest, b []byte) api.Signature {
	t.Helper()
	h := sha256.Sum256(b)
	written, err := libraryKey(t, d).Sign(nil, h[:], crypto.SHA256)
	if err != nil {
		t.Fatal(err)
	}
	s, ok := parseSignature(written)
	if !ok {
		t.Fatalf("no signature: %x", written)
	}
	return s
}

// libraryVerifies is what the library says of bytes.
func libraryVerifies(t *testing.T, q api.Point, s api.Signature, b []byte) bool {
	t.Helper()
	key, err := ecdsa.ParseUncompressedPublicKey(elliptic.P256(), slices.Concat([]byte{4}, q.X[:], q.Y[:]))
	if err != nil {
		t.Fatal(err)
	}
	h := sha256.Sum256(b)
	return ecdsa.Verify(key, h[:], value(s.R), value(s.S))
}

// libraryBytes is what the library writes.
func libraryBytes(v any) []byte {
	b, err := asn1.Marshal(v)
	if err != nil {
		panic(err)
	}
	return b
}

// libraryRead tells whether the library reads bytes; what it takes is more than may be.
func libraryRead(b []byte, v any) bool {
	rest, err := asn1.Unmarshal(b, v)
	return err == nil && len(rest) == 0
}

// numbers are a signature's, to the library.
type numbers struct{ R, S *big.Int }

func signatureBytes(s api.Signature) []byte { return libraryBytes(numbers{value(s.R), value(s.S)}) }

func parseSignature(b []byte) (s api.Signature, ok bool) {
	var n numbers
	if !libraryRead(b, &n) || n.R.Sign() < 0 || n.S.Sign() < 0 || n.R.BitLen() > 256 || n.S.BitLen() > 256 {
		return s, false
	}
	n.R.FillBytes(s.R[:])
	n.S.FillBytes(s.S[:])
	if !bytes.Equal(signatureBytes(s), b) {
		return api.Signature{}, false
	}
	return s, true
}

// algorithm is that by which all is signed.
type algorithm struct{ Id asn1.ObjectIdentifier }

var byECDSA = algorithm{asn1.ObjectIdentifier{1, 2, 840, 10045, 4, 3, 2}}

// couple is a body and a signature.
type couple struct {
	body      []byte
	signature api.Signature
}

func joinedBytes(c couple) []byte {
	return probe.Put(0x30, c.body, libraryBytes(byECDSA), probe.Put(3, []byte{0}, signatureBytes(c.signature)))
}

func parseJoined(b []byte) (c couple, ok bool) {
	var form struct {
		Body      asn1.RawValue
		Algorithm algorithm
		Bits      asn1.BitString
	}
	if !libraryRead(b, &form) {
		return c, false
	}
	if _, wrong := der.One(form.Body.FullBytes); wrong != api.OK { // the library takes tags of several bytes
		return c, false
	}
	s, ok := parseSignature(form.Bits.Bytes)
	c = couple{body: form.Body.FullBytes, signature: s}
	if !ok || !bytes.Equal(joinedBytes(c), b) {
		return couple{}, false
	}
	return c, true
}

func sameCouple(a, b couple) bool {
	return bytes.Equal(a.body, b.body) && a.signature == b.signature
}

func split(b []byte) (couple, api.Errno) {
	body, s, e := cert.Split(b)
	return couple{body, s}, e
}

// parseCert is the certificate whose bytes these are.
func parseCert(b []byte) (api.Cert, bool) {
	c, ok := parseJoined(b)
	if !ok {
		return api.Cert{}, false
	}
	return parseBody(c.body)
}

// reader is a call that reads: what it should answer by the chapter's words and the library, and bytes of each sort that it should take.
type reader[T any] struct {
	what     string
	read     func([]byte) (T, api.Errno)
	parse    func([]byte) (T, bool)
	same     func(a, b T) bool
	scribble func(T) // writes over all of its lists, and the spare room behind them
	samples  [][]byte
}

// none fails unless bytes are nothing's, and nothing stands beside the error.
func (r reader[T]) none(t *testing.T, what string, b []byte) {
	t.Helper()
	var nothing T
	if got, e := r.read(b); e != api.ErrCert || !r.same(got, nothing) {
		t.Errorf("%s, %s: %.600x is read as %.600s, error %d", r.what, what, b, show(got), e)
	}
}

// asLibrary fails unless bytes are read as they should be; it tells whether they are taken.
func (r reader[T]) asLibrary(t *testing.T, b []byte) bool {
	t.Helper()
	want, ok := r.parse(b)
	wrong := api.OK
	if !ok {
		var nothing T
		want, wrong = nothing, api.ErrCert
	}
	if got, e := r.read(b); e != wrong || !r.same(got, want) {
		t.Fatalf("%s: %.800x is read as %.600s, error %d; want %.600s, error %d", r.what, b, show(got), e, show(want), wrong)
	}
	return ok
}

func (r reader[T]) name() string     { return r.what }
func (r reader[T]) some() [][]byte   { return r.samples }
func (r reader[T]) is(b []byte) bool { _, ok := r.parse(b); return ok }

// face is a call that reads, whatever it answers.
type face interface {
	name() string
	some() [][]byte
	is(b []byte) bool
	asLibrary(t *testing.T, b []byte) bool
	none(t *testing.T, what string, b []byte)
	ownOf(t *testing.T) // that answers are memory of their own
}

// faces are all calls that read.
func faces(t *testing.T) []face {
	return []face{keyReader(), bodyReader(), joinedReader(), certReader(t)}
}

func keyReader() reader[api.Point] {
	r := reader[api.Point]{what: "ToKey", read: cert.ToKey, parse: parseKey, same: func(a, b api.Point) bool { return a == b }, scribble: func(api.Point) {}}
	for _, p := range points() {
		r.samples = append(r.samples, keyBytes(p))
	}
	return r
}

func bodyReader() reader[api.Cert] {
	r := reader[api.Cert]{what: "ToBody", read: cert.ToBody, parse: parseBody, same: sameCert, scribble: scribble}
	for _, c := range goods() {
		r.samples = append(r.samples, bodyBytes(c))
	}
	return r
}

func joinedReader() reader[couple] {
	r := reader[couple]{what: "Split", read: split, parse: parseJoined, same: sameCouple, scribble: func(c couple) { probe.Scribble(c.body, 0x77) }}
	for _, c := range couples() {
		r.samples = append(r.samples, joinedBytes(c))
	}
	return r
}

func certReader(t *testing.T) reader[api.Cert] {
	t.Helper()
	r := reader[api.Cert]{what: "Decode", read: cert.Decode, parse: parseCert, same: sameCert, scribble: scribble}
	for i, c := range goods() {
		s := signatures()[i%len(signatures())]
		if i%4 == 0 {
			s = librarySignature(t, small(5), bodyBytes(c))
		}
		r.samples = append(r.samples, joinedBytes(couple{bodyBytes(c), s}))
	}
	return r
}

// show is anything, to be read.
func show(v any) string { return fmt.Sprintf("%+v", v) }

// public, written and signed fail the test at an error.
func public(t *testing.T, d api.Digest) api.Point {
	t.Helper()
	q, e := sign.Public(d)
	if e != api.OK {
		t.Fatalf("Public(%x): error %d", d, e)
	}
	return q
}

func written(t *testing.T, c api.Cert) []byte {
	t.Helper()
	b, e := cert.Body(c)
	if e != api.OK {
		t.Fatalf("Body(%.600s): error %d", show(c), e)
	}
	return b
}

func signed(t *testing.T, c api.Cert, d api.Digest) []byte {
	t.Helper()
	b, e := cert.Sign(c, d)
	if e != api.OK {
		t.Fatalf("Sign(%.600s, %x): error %d", show(c), d, e)
	}
	return b
}

func joinedOf(t *testing.T, c couple) []byte {
	t.Helper()
	b, e := cert.Join(c.body, c.signature)
	if e != api.OK {
		t.Fatalf("Join(%.600x, %s): error %d", c.body, show(c.signature), e)
	}
	return b
}
