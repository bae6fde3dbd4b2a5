package cert_test

import (
	"bytes"
	"crypto"
	"crypto/ecdsa"
	"crypto/ed25519"
	"crypto/elliptic"
	"crypto/x509"
	"crypto/x509/pkix"
	"math/big"
	"testing"
	"time"

	"chancery/api"
	"chancery/cert"
	"chancery/probe"
)

// template is what the library makes certificates of.
func template(serial int64, subject string) *x509.Certificate {
	return &x509.Certificate{
		SerialNumber: big.NewInt(serial), Subject: pkix.Name{Country: []string{"DE"}, Organization: []string{"a & b"}, CommonName: subject},
		NotBefore: time.Unix(turn-1, 0), NotAfter: time.Unix(turn, 0),
	}
}

// made is a certificate that the library makes, signed without chance.
func made(t *testing.T, template, above *x509.Certificate, key any, signer crypto.Signer) (b []byte, own *x509.Certificate) {
	t.Helper()
	b, err := x509.CreateCertificate(nil, template, above, key, signer)
	if err != nil {
		t.Fatal(err)
	}
	own, err = x509.ParseCertificate(b)
	if err != nil {
		t.Fatal(err)
	}
	return b, own
}

// P16.2 to P16.5: certificates that the library has made, of its own key and of another one.
func TestLibraryMakes(t *testing.T) {
	key, other := libraryKey(t, probe.Small(5)), libraryKey(t, probe.Small(6))
	authority := template(0x80, "authority")
	authority.IsCA, authority.BasicConstraintsValid, authority.KeyUsage = true, true, x509.KeyUsageCertSign
	first, own := made(t, authority, authority, key.Public(), key)
	host := template(1<<62, "host")
	host.DNSNames = []string{"a.b"}
	second, _ := made(t, host, own, other.Public(), key)
	n := api.Name{{Type: 6, Value: "DE"}, {Type: 10, Value: "a & b"}, {Type: 3, Value: "authority"}}
	for _, c := range []struct {
		b    []byte
		want api.Cert
	}{
		{first, api.Cert{Serial: []byte{0x80}, Issuer: n, From: turn - 1, To: turn, Subject: n, Key: libraryPoint(t, probe.Small(5))}},
		{second, api.Cert{Serial: []byte{0x40, 0, 0, 0, 0, 0, 0, 0}, Issuer: n, From: turn - 1, To: turn, Subject: append(n[:2:2], api.Attr{Type: 3, Value: "host"}), Key: libraryPoint(t, probe.Small(6))}},
	} {
		parsed, err := x509.ParseCertificate(c.b)
		if err != nil {
			t.Fatal(err)
		}
		for _, x := range parsed.Extensions {
			c.want.Exts = append(c.want.Exts, api.Ext{Id: x.Id[3], Critical: x.Critical, Value: x.Value})
		}
		got, e := cert.Decode(c.b)
		if e != api.OK || !sameCert(got, c.want) || len(got.Exts) == 0 {
			t.Fatalf("%s, error %d; want %s", show(got), e, show(c.want))
		}
		if body := written(t, got); !bytes.Equal(body, parsed.RawTBSCertificate) {
			t.Errorf("%x; want %x", body, parsed.RawTBSCertificate)
		}
		if again := signed(t, got, probe.Small(5)); !bytes.Equal(again, c.b) {
			t.Errorf("%x; want %x", again, c.b)
		}
		by(t, "the authority's key", c.b, libraryPoint(t, probe.Small(5)), true)
		by(t, "another key", c.b, libraryPoint(t, probe.Small(6)), false)
	}
}

// P16.4: certificates that the library makes, but of other keys, curves and digests, or of a name with two attributes in one: they are joined, or not even that, and no certificates here.
func TestLibraryMakesOthers(t *testing.T) {
	key := libraryKey(t, probe.Small(5))
	q := libraryPoint(t, probe.Small(5))
	wide, err := ecdsa.ParseRawPrivateKey(elliptic.P384(), bytes.Repeat([]byte{5}, 48))
	if err != nil {
		t.Fatal(err)
	}
	edwards := ed25519.NewKeyFromSeed(bytes.Repeat([]byte{5}, 32))
	two := template(5, "a")
	two.Subject.OrganizationalUnit = []string{"b", "c"}
	long := template(5, "a")
	long.SerialNumber = new(big.Int).Lsh(big.NewInt(1), 158)
	unlike := template(5, "a")
	unlike.ExtraExtensions = []pkix.Extension{{Id: []int{1, 2, 3}, Value: []byte("x")}}
	plain := template(5, "a")
	sha512 := template(5, "a")
	sha512.SignatureAlgorithm = x509.ECDSAWithSHA512
	for what, c := range map[string]struct {
		template     *x509.Certificate
		key          any
		signer       crypto.Signer
		joined, good bool
	}{
		"plain":                     {plain, key.Public(), key, true, true},
		"the longest serial number": {long, key.Public(), key, true, true},
		"another extension":         {unlike, key.Public(), key, true, false},
		"two attributes in one":     {two, key.Public(), key, true, false},
		"a key of P-384":            {plain, wide.Public(), key, true, false},
		"a key of Ed25519":          {plain, edwards.Public(), key, true, false},
		"SHA-512":                   {sha512, key.Public(), key, false, false},
		"by a key of P-384":         {plain, key.Public(), wide, false, false},
		"by a key of Ed25519":       {plain, key.Public(), edwards, false, false},
	} {
		b, _ := made(t, c.template, c.template, c.key, c.signer)
		if _, e := cert.Decode(b); (e == api.OK) != c.good || e != api.OK && e != api.ErrCert {
			t.Errorf("%s: Decode: error %d", what, e)
		}
		if _, _, e := cert.Split(b); (e == api.OK) != c.joined || e != api.OK && e != api.ErrCert {
			t.Errorf("%s: Split: error %d", what, e)
		}
		by(t, what, b, q, c.joined)
	}
}

// P16.4, P16.5: what Sign makes, the library reads and verifies.
func TestLibraryReads(t *testing.T) {
	d := probe.Small(5)
	authority := but(func(c *api.Cert) {
		c.Serial, c.Subject, c.Key, c.Exts = serials()[38], probe.Named("a"), libraryPoint(t, d), []api.Ext{{Id: 19, Critical: true, Value: raw("30 03 01 01 ff")}, {Id: 15, Critical: true, Value: raw("03 02 02 04")}}
	})
	top, err := x509.ParseCertificate(signed(t, authority, d))
	if err != nil {
		t.Fatal(err)
	}
	for _, s := range spans() {
		for i, serial := range serials() {
			if i%7 != s[0]&3 {
				continue
			}
			c := but(func(c *api.Cert) {
				c.Serial, c.From, c.To, c.Subject, c.Exts = serial, s[0], s[1], probe.Attrs(i%16), nil
			})
			own, err := x509.ParseCertificate(signed(t, c, d))
			if err != nil {
				t.Fatal(err)
			}
			if err := own.CheckSignatureFrom(top); err != nil {
				t.Fatal(err)
			}
			if own.NotBefore.Unix() != int64(s[0]) || own.NotAfter.Unix() != int64(s[1]) || own.SerialNumber.Cmp(new(big.Int).SetBytes(serial)) != 0 || len(own.Subject.Names) != len(c.Subject) || own.Issuer.CommonName != "a" || own.Version != 3 {
				t.Fatalf("%s is read as %s", show(c), show(own))
			}
		}
	}
	if err := top.CheckSignatureFrom(top); err != nil || !top.IsCA {
		t.Errorf("%v, an authority: %t", err, top.IsCA)
	}
}
