package cert_test

import (
	"bytes"
	"crypto"
	"crypto/ecdsa"
	"crypto/elliptic"
	"crypto/sha256"
	"encoding/asn1"
	"fmt"
	"math/big"
	"slices"
	"testing"

	"chancery/api"
	"chancery/cert"
	"chancery/der"
	"chancery/probe"
	"chancery/sign"
)

// The curve's numbers.
var (
	prime   = probe.Prime()
	order   = probe.Order()
	base    = probe.Base()
	allOnes = probe.Plus(api.Digest{}, -1)
)

// raw are bytes by digits.
func raw(digits string) []byte { return probe.Raw(digits) }

func value(d api.Digest) *big.Int { return new(big.Int).SetBytes(d[:]) }

// less is n less a number.
func less(d api.Digest) api.Digest {
	var rest api.Digest
	new(big.Int).Sub(value(order), value(d)).FillBytes(rest[:])
	return rest
}

// libraryKey is a key of the library.
func libraryKey(t *testing.T, d api.Digest) *ecdsa.PrivateKey {
	t.Helper()
	key, err := ecdsa.ParseRawPrivateKey(elliptic.P256(), d[:])
	if err != nil {
		t.Fatal(err)
	}
	return key
}

// libraryPoint is a key's point.
func libraryPoint(t *testing.T, d api.Digest) api.Point {
	t.Helper()
	b, err := libraryKey(t, d).PublicKey.Bytes()
	if err != nil {
		t.Fatal(err)
	}
	return api.Point{X: api.Digest(b[1:33]), Y: api.Digest(b[33:])}
}

// librarySignature is that of bytes, made without chance.
func librarySignature(t *testing.T, d api.Digest, b []byte) api.Signature {
	t.Helper()
	h := sha256.Sum256(b)
	written, err := libraryKey(t, d).Sign(nil, h[:], crypto.SHA256)
	if err != nil {
		t.Fatal(err)
	}
	s, ok := parseSignature(written)
	if !ok {
		t.Fatalf("no signature: %x", written)
	}
	return s
}

// libraryVerifies is what the library says of bytes.
func libraryVerifies(t *testing.T, q api.Point, s api.Signature, b []byte) bool {
	t.Helper()
	key, err := ecdsa.ParseUncompressedPublicKey(elliptic.P256(), slices.Concat([]byte{4}, q.X[:], q.Y[:]))
	if err != nil {
		t.Fatal(err)
	}
	h := sha256.Sum256(b)
	return ecdsa.Verify(key, h[:], value(s.R), value(s.S))
}

// libraryBytes is what the library writes.
func libraryBytes(v any) []byte {
	b, err := asn1.Marshal(v)
	if err != nil {
		panic(err)
	}
	return b
}

// libraryRead tells whether the library reads bytes; what it takes is more than may be.
func libraryRead(b []byte, v any) bool {
	rest, err := asn1.Unmarshal(b, v)
	return err == nil && len(rest) == 0
}

// numbers are a signature's, to the library.
type numbers struct{ R, S *big.Int }

func signatureBytes(s api.Signature) []byte { return libraryBytes(numbers{value(s.R), value(s.S)}) }

func parseSignature(b []byte) (s api.Signature, ok bool) {
	var n numbers
	if !libraryRead(b, &n) || n.R.Sign() < 0 || n.S.Sign() < 0 || n.R.BitLen() > 256 || n.S.BitLen() > 256 {
		return s, false
	}
	n.R.FillBytes(s.R[:])
	n.S.FillBytes(s.S[:])
	if !bytes.Equal(signatureBytes(s), b) {
		return api.Signature{}, false
	}
	return s, true
}

// algorithm is that by which all is signed.
type algorithm struct{ Id asn1.ObjectIdentifier }

var byECDSA = algorithm{asn1.ObjectIdentifier{1, 2, 840, 10045, 4, 3, 2}}

// couple is a body and a signature.
type couple struct {
	body      []byte
	signature api.Signature
}

func joinedBytes(c couple) []byte {
	return probe.Put(0x30, c.body, libraryBytes(byECDSA), probe.Put(3, []byte{0}, signatureBytes(c.signature)))
}

func parseJoined(b []byte) (c couple, ok bool) {
	var form struct {
		Body      asn1.RawValue
		Algorithm algorithm
		Bits      asn1.BitString
	}
	if !libraryRead(b, &form) {
		return c, false
	}
	if _, wrong := der.One(form.Body.FullBytes); wrong != api.OK { // the library takes tags of several bytes
		return c, false
	}
	s, ok := parseSignature(form.Bits.Bytes)
	c = couple{body: form.Body.FullBytes, signature: s}
	if !ok || !bytes.Equal(joinedBytes(c), b) {
		return couple{}, false
	}
	return c, true
}

func sameCouple(a, b couple) bool {
	return bytes.Equal(a.body, b.body) && a.signature == b.signature
}

func split(b []byte) (couple, api.Errno) {
	body, s, e := cert.Split(b)
	return couple{body, s}, e
}

// parseCert is the certificate whose bytes these are.
func parseCert(b []byte) (api.Cert, bool) {
	c, ok := parseJoined(b)
	if !ok {
		return api.Cert{}, false
	}
	return parseBody(c.body)
}

// faces are all calls that read.
func faces(t *testing.T) []probe.Face {
	return []probe.Face{keyReader(), bodyReader(), joinedReader(), certReader(t)}
}

func keyReader() probe.Reader[api.Point] {
	r := probe.Reader[api.Point]{What: "ToKey", Wrong: api.ErrCert, Read: cert.ToKey, Parse: parseKey, Same: func(a, b api.Point) bool { return a == b }, Scribble: func(api.Point) {}}
	for _, p := range probe.Points() {
		r.Samples = append(r.Samples, keyBytes(p))
	}
	return r
}

func bodyReader() probe.Reader[api.Cert] {
	r := probe.Reader[api.Cert]{What: "ToBody", Wrong: api.ErrCert, Read: cert.ToBody, Parse: parseBody, Same: sameCert, Scribble: scribble}
	for _, c := range goods() {
		r.Samples = append(r.Samples, bodyBytes(c))
	}
	return r
}

func joinedReader() probe.Reader[couple] {
	r := probe.Reader[couple]{What: "Split", Wrong: api.ErrCert, Read: split, Parse: parseJoined, Same: sameCouple, Scribble: func(c couple) { probe.Scribble(c.body, 0x77) }}
	for _, c := range couples() {
		r.Samples = append(r.Samples, joinedBytes(c))
	}
	return r
}

func certReader(t *testing.T) probe.Reader[api.Cert] {
	t.Helper()
	r := probe.Reader[api.Cert]{What: "Decode", Wrong: api.ErrCert, Read: cert.Decode, Parse: parseCert, Same: sameCert, Scribble: scribble}
	for i, c := range goods() {
		s := signatures()[i%len(signatures())]
		if i%4 == 0 {
			s = librarySignature(t, probe.Small(5), bodyBytes(c))
		}
		r.Samples = append(r.Samples, joinedBytes(couple{bodyBytes(c), s}))
	}
	return r
}

// show is anything, to be read.
func show(v any) string { return fmt.Sprintf("%+v", v) }

// public, written and signed fail the test at an error.
func public(t *testing.T, d api.Digest) api.Point {
	t.Helper()
	q, e := sign.Public(d)
	if e != api.OK {
		t.Fatalf("Public(%x): error %d", d, e)
	}
	return q
}

func written(t *testing.T, c api.Cert) []byte {
	t.Helper()
	b, e := cert.Body(c)
	if e != api.OK {
		t.Fatalf("Body(%.600s): error %d", show(c), e)
	}
	return b
}

func signed(t *testing.T, c api.Cert, d api.Digest) []byte {
	t.Helper()
	b, e := cert.Sign(c, d)
	if e != api.OK {
		t.Fatalf("Sign(%.600s, %x): error %d", show(c), d, e)
	}
	return b
}

func joinedOf(t *testing.T, c couple) []byte {
	t.Helper()
	b, e := cert.Join(c.body, c.signature)
	if e != api.OK {
		t.Fatalf("Join(%.600x, %s): error %d", c.body, show(c.signature), e)
	}
	return b
}
