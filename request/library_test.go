package request_test

import (
	"bytes"
	"crypto"
	"crypto/ecdsa"
	"crypto/ed25519"
	"crypto/elliptic"
	"crypto/x509"
	"crypto/x509/pkix"
	"net"
	"testing"

	"chancery/api"
	"chancery/ext"
	"chancery/probe"
	"chancery/request"
)

// privateKey is a key of the library.
func privateKey(t *testing.T, d api.Digest) *ecdsa.PrivateKey {
	t.Helper()
	key, err := ecdsa.ParseRawPrivateKey(elliptic.P256(), d[:])
	if err != nil {
		t.Fatal(err)
	}
	return key
}

// template is what the library makes requests of.
func template(subject string) *x509.CertificateRequest {
	return &x509.CertificateRequest{Subject: pkix.Name{Country: []string{"DE"}, Organization: []string{"a & b"}, CommonName: subject}}
}

// P17.1 to P17.3: requests that the library has made, with extensions and without.
func TestLibraryMakes(t *testing.T) {
	names := template("host")
	names.DNSNames, names.IPAddresses = []string{"a.b", "*.c.d"}, []net.IP{net.IPv4(10, 0, 0, 1).To4()}
	more := template("more")
	more.DNSNames = []string{"a.b"}
	more.ExtraExtensions = []pkix.Extension{{Id: []int{2, 5, 29, 15}, Critical: true, Value: raw("03 02 07 80")}}
	subject := api.Name{{Type: 6, Value: "DE"}, {Type: 10, Value: "a & b"}}
	for i, c := range []struct {
		template *x509.CertificateRequest
		names    []api.General
		usage    bool
	}{
		{template("plain"), nil, false},
		{names, []api.General{{Kind: api.GDNS, Text: "a.b"}, {Kind: api.GDNS, Text: "*.c.d"}, {Kind: api.GIP, Text: "\x0a\x00\x00\x01"}}, false},
		{more, []api.General{{Kind: api.GDNS, Text: "a.b"}}, true},
	} {
		d := probe.Small(5 + i)
		b, err := x509.CreateCertificateRequest(nil, c.template, privateKey(t, d))
		if err != nil {
			t.Fatal(err)
		}
		want := api.Request{Subject: append(subject[:2:2], api.Attr{Type: 3, Value: c.template.Subject.CommonName}), Key: public(d)}
		if c.names != nil {
			want.Exts = append(want.Exts, api.Ext{Id: api.ENames, Value: sure(ext.Names(c.names...))})
		}
		if c.usage {
			want.Exts = append(want.Exts, api.Ext{Id: api.EUsage, Critical: true, Value: raw("03 02 07 80")})
		}
		checks(t, "the library's", b, want, true)
		if again := made(t, want, d); !bytes.Equal(again, b) {
			t.Errorf("%x; want %x", again, b)
		}
	}
}

// P17.3: requests that the library makes, but of other keys, curves and digests, of a name with two attributes in one, with other attributes and extensions: they are none here.
func TestLibraryMakesOthers(t *testing.T) {
	key := privateKey(t, five())
	wide, err := ecdsa.ParseRawPrivateKey(elliptic.P384(), bytes.Repeat([]byte{5}, 48))
	if err != nil {
		t.Fatal(err)
	}
	two, sha512, unlike, password := template("a"), template("a"), template("a"), template("a")
	two.Subject.OrganizationalUnit = []string{"b", "c"}
	sha512.SignatureAlgorithm = x509.ECDSAWithSHA512
	unlike.ExtraExtensions = []pkix.Extension{{Id: []int{1, 2, 3}, Value: []byte("x")}}
	password.Attributes = []pkix.AttributeTypeAndValueSET{{Type: []int{1, 2, 840, 113549, 1, 9, 7}, Value: [][]pkix.AttributeTypeAndValue{{{Type: []int{2, 5, 4, 3}, Value: "x"}}}}}
	for what, c := range map[string]struct {
		template *x509.CertificateRequest
		signer   crypto.Signer
		good     bool
	}{
		"plain":                 {template("a"), key, true},
		"two attributes in one": {two, key, false},
		"SHA-512":               {sha512, key, false},
		"another extension":     {unlike, key, false},
		"another attribute":     {password, key, false},
		"a key of P-384":        {template("a"), wide, false},
		"a key of Ed25519":      {template("a"), ed25519.NewKeyFromSeed(bytes.Repeat([]byte{5}, 32)), false},
	} {
		b, err := x509.CreateCertificateRequest(nil, c.template, c.signer)
		if err != nil {
			t.Fatal(what, err)
		}
		if c.good {
			if _, e := request.Check(b); e != api.OK {
				t.Errorf("%s: error %d", what, e)
			}
			continue
		}
		noRequest(t, what, b)
	}
}

// P17.2: what Make makes, the library reads and verifies; what another key has signed it doesn't.
func TestLibraryReads(t *testing.T) {
	for i, n := range probe.Names() {
		d := probe.Keys()[i%len(probe.Keys())]
		r := api.Request{Subject: n, Key: public(d)}
		if i%2 == 0 {
			r.Exts = []api.Ext{{Id: api.ENames, Value: sure(ext.Names(api.General{Kind: api.GDNS, Text: "a.b"}))}, {Id: 127, Critical: true, Value: []byte("x")}}
		}
		own, err := x509.ParseCertificateRequest(made(t, r, d))
		if err != nil {
			t.Fatal(show(r), err)
		}
		if err := own.CheckSignature(); err != nil {
			t.Errorf("%s: %v", show(r), err)
		}
		if !privateKey(t, d).PublicKey.Equal(own.PublicKey) || own.Version != 0 || len(own.Subject.Names) != len(n) || len(own.Extensions) != len(r.Exts) || len(r.Exts) > 0 && own.DNSNames[0] != "a.b" {
			t.Errorf("%s is read as %s", show(r), show(own))
		}
		other, err := x509.ParseCertificateRequest(made(t, r, probe.Small(7)))
		if err != nil || other.CheckSignature() == nil {
			t.Errorf("%s: %v, and is verified", show(r), err)
		}
	}
}
