package cert_test

import (
	"bytes"
	"testing"

	"chancery/api"
	"chancery/cert"
	"chancery/probe"
)

// by fails unless Signed answers this.
func by(t *testing.T, what string, b []byte, q api.Point, want bool) {
	t.Helper()
	if got := cert.Signed(b, q); got != want {
		t.Fatalf("%s: Signed(%.600x, %s): %t", what, b, show(q), got)
	}
}

// P16.5: by the key that has signed, and by no other one, the certificate's own among them.
func TestSigned(t *testing.T) {
	for _, d := range probe.Keys() {
		own := but(func(c *api.Cert) { c.Key = libraryPoint(t, d) })
		for _, c := range []api.Cert{own, plain(), {Serial: []byte{1}, Key: probe.ZeroPoint()}} {
			body := bodyBytes(c)
			b := joinedBytes(couple{body, librarySignature(t, d, body)})
			for _, other := range probe.Keys() {
				by(t, "a key", b, libraryPoint(t, other), other == d)
			}
			by(t, "the point across", b, probe.Across(libraryPoint(t, d)), false)
		}
	}
}

// P16.5: any body that is one element, which need not be a certificate's; as the library has it.
func TestSignedBodies(t *testing.T) {
	d := probe.Small(5)
	q := libraryPoint(t, d)
	for _, c := range couples() {
		s := librarySignature(t, d, c.body)
		by(t, "any body", joinedBytes(couple{c.body, s}), q, true)
		by(t, "any body, across", joinedBytes(couple{c.body, api.Signature{R: s.R, S: less(s.S)}}), q, true)
		by(t, "another signature", joinedBytes(c), q, false)
		by(t, "another key", joinedBytes(couple{c.body, s}), base, false)
		if !libraryVerifies(t, q, s, c.body) || libraryVerifies(t, q, c.signature, c.body) {
			t.Fatal("the library has it otherwise")
		}
	}
}

// P16.5: of the body it is the element's bytes that are signed: its head too, nothing beside it.
func TestSignedWhat(t *testing.T) {
	d := probe.Small(5)
	q, body := libraryPoint(t, d), bodyBytes(plain())
	for what, text := range map[string][]byte{
		"the content":           body[3:],
		"all":                   joinedBytes(couple{body, api.Signature{}}),
		"nothing":               nil,
		"the algorithm too":     append(bytes.Clone(body), raw(ecdsaWithSHA256)...),
		"a byte fewer":          body[:len(body)-1],
		"a byte more":           append(bytes.Clone(body), 0),
		"another body":          bodyBytes(but(func(c *api.Cert) { c.To++ })),
		"the body, twice":       append(bytes.Clone(body), body...),
		"the body as an octets": probe.Put(4, body),
	} {
		by(t, what, joinedBytes(couple{body, librarySignature(t, d, text)}), q, false)
	}
	by(t, "the body", joinedBytes(couple{body, librarySignature(t, d, body)}), q, true)
}

// P16.5: one bit changed, anywhere in the bytes, in the point, in the signature.
func TestSignedBits(t *testing.T) {
	d := probe.Small(5)
	q := libraryPoint(t, d)
	body := bodyBytes(plain())
	s := librarySignature(t, d, body)
	b := joinedBytes(couple{body, s})
	by(t, "as it is", b, q, true)
	for at := range b {
		for bit := range 8 {
			b[at] ^= 1 << bit
			by(t, "a bit changed", b, q, false)
			b[at] ^= 1 << bit
		}
	}
	for bit := range 256 {
		by(t, "a bit of R", joinedBytes(couple{body, api.Signature{R: probe.Turned(s.R, bit), S: s.S}}), q, false)
		by(t, "a bit of S", joinedBytes(couple{body, api.Signature{R: s.R, S: probe.Turned(s.S, bit)}}), q, false)
		by(t, "a bit of X", b, api.Point{X: probe.Turned(q.X, bit), Y: q.Y}, false)
		by(t, "a bit of Y", b, api.Point{X: q.X, Y: probe.Turned(q.Y, bit)}, false)
	}
}

// P16.5: numbers that are no signature's, and points that are no key's.
func TestSignedOfNone(t *testing.T) {
	d := probe.Small(5)
	q := libraryPoint(t, d)
	body := bodyBytes(plain())
	s := librarySignature(t, d, body)
	for _, x := range probe.NoKeys() {
		by(t, "R out of bounds", joinedBytes(couple{body, api.Signature{R: x, S: s.S}}), q, false)
		by(t, "S out of bounds", joinedBytes(couple{body, api.Signature{R: s.R, S: x}}), q, false)
		by(t, "both out of bounds", joinedBytes(couple{body, api.Signature{R: x, S: x}}), q, false)
	}
	by(t, "changed over", joinedBytes(couple{body, api.Signature{R: s.S, S: s.R}}), q, false)
	b := joinedBytes(couple{body, s})
	for _, p := range append(probe.NoPoints(), api.Point{X: q.X, Y: q.Y, Inf: true}) {
		by(t, "no point", b, p, false)
	}
}

// P16.5: what is not joined is signed by nobody.
func TestSignedOfNotJoined(t *testing.T) {
	d := probe.Small(5)
	q := libraryPoint(t, d)
	for _, c := range []api.Cert{plain(), {Serial: []byte{1}, Key: base}} {
		body := bodyBytes(c)
		b := joinedBytes(couple{body, librarySignature(t, d, body)})
		by(t, "joined", b, q, true)
		for end := range b {
			by(t, "cut short", b[:end], q, false)
		}
		for x := range 256 {
			by(t, "a byte more", append(bytes.Clone(b), byte(x)), q, false)
		}
		for what, near := range probe.Altered(b, strangers()...) {
			if _, ok := parseJoined(near); !ok {
				by(t, what, near, q, false)
			}
		}
		by(t, "the body", body, q, false)
		by(t, "within another one", probe.Put(0x30, b), q, false)
	}
	for _, b := range noElements() {
		by(t, "no element", b, q, false)
		by(t, "of no element", joinedBytes(couple{b, librarySignature(t, d, b)}), q, false)
	}
}
