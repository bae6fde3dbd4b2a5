package cert_test

import (
	"bytes"
	"testing"

	"chancery/api"
	"chancery/cert"
	"chancery/probe"
)

// few are certificates of each sort, as many as can be signed in no long time.
func few() []api.Cert {
	l := []api.Cert{plain(), {Serial: []byte{1}, Key: base}}
	for i, c := range goods() {
		if i%9 == 0 {
			l = append(l, c)
		}
	}
	return l
}

// knownCerts are the bytes of the certificates that knownBodies has, signed by the key 5.
func knownCerts() []string {
	l := []string{
		"03 47 00 30 44 02 20 6a782f27 5ea93670 a6a1a2f2 510ba399 3757102b a49e479b 38f98f48 7bc5c658 02 20 1e18e1ec ca2d05ea d9222988 acd4d205 b6d3cc08 f52548d6 eb308214 b61b3b96",
		"03 49 00 30 46 02 21 00 d8e27430 75d9c6f8 9b9b3a66 4072b1be dc448108 2103948b 57fdce88 b56e81fe 02 21 00 f36c6d89 5a430c34 605db5d0 1c7fa424 98ff2aa3 8b03db52 75a472c2 5ce0586f",
		"03 47 00 30 44 02 20 4f480a7f b0fb12ec 1a3e07ff ffce49ea 8100758c f99d2a0d cd3768d1 58e7ffbb 02 20 07215f79 2d1c8fb1 fce2472d 0818f99e 5fe36cf4 75b13db9 9a8c8555 c1b8a6bf",
	}
	for i, head := range []string{"30 82 01 15", "30 81 f0", "30 82 01 31"} {
		l[i] = head + knownBodies[i].bytes + ecdsaWithSHA256 + l[i]
	}
	return l
}

// P16.4: certificates' bytes that are written out.
func TestKnownCerts(t *testing.T) {
	for i, digits := range knownCerts() {
		c := knownBodies[i].c
		if b := signed(t, c, probe.Small(5)); !bytes.Equal(b, raw(digits)) {
			t.Errorf("%.600s: %x", show(c), b)
		}
		if got, e := cert.Decode(raw(digits)); e != api.OK || !sameCert(got, c) {
			t.Errorf("Decode(%s): %.600s, error %d", digits, show(got), e)
		}
	}
}

// P16.4: as the library signs, with keys of each sort, its own certificates and others'.
func TestSignByLibrary(t *testing.T) {
	for i, c := range few() {
		for j, d := range probe.Keys() {
			if (i+j)%3 > 0 && i > 3 {
				continue
			}
			if (i+j)%2 == 0 {
				c.Key = libraryPoint(t, d)
			}
			body := bodyBytes(c)
			want := joinedBytes(couple{body, librarySignature(t, d, body)})
			if b := signed(t, c, d); !bytes.Equal(b, want) {
				t.Fatalf("Sign(%.600s, %x): %.600x; want %.600x", show(c), d, b, want)
			}
			if got, e := cert.Decode(want); e != api.OK || !sameCert(got, c) {
				t.Fatalf("Decode(%.600x): %.600s, error %d", want, show(got), e)
			}
		}
	}
}

// P16.4: the longest certificates.
func TestSignLongest(t *testing.T) {
	c := but(func(c *api.Cert) { c.Issuer, c.Subject, c.Exts = probe.Attrs(16), probe.Attrs(16), probe.LongExts() })
	body := bodyBytes(c)
	want := joinedBytes(couple{body, librarySignature(t, probe.Small(5), body)})
	if b := signed(t, c, probe.Small(5)); !bytes.Equal(b, want) {
		t.Errorf("%.600x", b)
	}
	if got, e := cert.Decode(want); e != api.OK || !sameCert(got, c) || !cert.Signed(want, libraryPoint(t, probe.Small(5))) {
		t.Errorf("error %d", e)
	}
}

// P16.4: what is no key; a certificate that may not be is told ahead of it.
func TestSignErrors(t *testing.T) {
	for _, d := range probe.NoKeys() {
		for _, c := range few()[:12] {
			if b, e := cert.Sign(c, d); e != api.ErrKey || len(b) > 0 {
				t.Errorf("Sign(%.600s, %x): %x, error %d", show(c), d, b, e)
			}
		}
		for i, c := range wrongs() {
			if i%7 > 0 {
				continue
			}
			if b, e := cert.Sign(c, d); e != api.ErrCert || len(b) > 0 {
				t.Errorf("Sign(%.600s, %x): %x, error %d", show(c), d, b, e)
			}
		}
	}
}

// P16.4: Decode does not look at the signature.
func TestDecodeAnySignature(t *testing.T) {
	for _, c := range few() {
		for _, s := range signatures() {
			b := joinedBytes(couple{bodyBytes(c), s})
			if got, e := cert.Decode(b); e != api.OK || !sameCert(got, c) {
				t.Fatalf("Decode(%.600x): %.600s, error %d", b, show(got), e)
			}
		}
	}
}

// P16.4: what is joined, but of no certificate's body; what is a body, but not joined.
func TestDecodeOfNone(t *testing.T) {
	r := certReader(t)
	for _, c := range couples() {
		if _, ok := parseBody(c.body); !ok {
			r.None(t, "joined of no body", joinedBytes(c))
		}
	}
	s := api.Signature{R: probe.Small(1), S: probe.Small(128)}
	for i, part := range parted() {
		for _, body := range [][]byte{with(i, part+"05 00"), with(i, "1"+part[1:]), with(i, part+part)} {
			r.None(t, "joined of no body", joinedBytes(couple{body, s}))
		}
	}
	body := of(parted())
	r.None(t, "a body alone", body)
	r.None(t, "joined twice", joinedBytes(couple{joinedBytes(couple{body, s}), s}))
	r.None(t, "a body without its head", probe.Put(0x30, body[3:], raw(ecdsaWithSHA256), raw("03 0a 00 30 07 02 01 01 02 02 00 80")))
	r.None(t, "nothing", nil)
	r.None(t, "an empty one", raw("30 00"))
}
