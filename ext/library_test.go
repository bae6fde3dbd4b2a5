package ext_test

import (
	"bytes"
	"crypto/ecdsa"
	"crypto/elliptic"
	"crypto/x509"
	"crypto/x509/pkix"
	"math/big"
	"net"
	"slices"
	"testing"
	"time"

	"chancery/api"
	"chancery/der"
	"chancery/ext"
	"chancery/probe"
)

// libraryKey is a key that the library signs with, without chance.
func libraryKey(t *testing.T) *ecdsa.PrivateKey {
	t.Helper()
	key, err := ecdsa.ParseRawPrivateKey(elliptic.P256(), bytes.Repeat([]byte{5}, 32))
	if err != nil {
		t.Fatal(err)
	}
	return key
}

// made is the bytes of the extensions of a certificate that the library makes of a template, signed by itself or by another one.
func made(t *testing.T, template, above *x509.Certificate) (list []byte, own *x509.Certificate) {
	t.Helper()
	key := libraryKey(t)
	template.SerialNumber = big.NewInt(1)
	template.NotBefore, template.NotAfter = time.Unix(0, 0), time.Unix(1<<31, 0)
	b, err := x509.CreateCertificate(nil, template, above, key.Public(), key)
	if err != nil {
		t.Fatal(err)
	}
	own, err = x509.ParseCertificate(b)
	if err != nil {
		t.Fatal(err)
	}
	body, e1 := der.One(own.RawTBSCertificate)
	parts, _, e2 := der.All(body.Content)
	if e1 != api.OK || e2 != api.OK {
		t.Fatal(e1, e2)
	}
	return parts[len(parts)-1].Content, own
}

// values are those of extensions by their Ids.
func values(t *testing.T, list []byte) map[int][]byte {
	t.Helper()
	l, e := ext.Decode(list)
	if e != api.OK {
		t.Fatalf("%x: error %d", list, e)
	}
	if again, e := ext.Encode(l); e != api.OK || !bytes.Equal(again, list) {
		t.Fatalf("%x, read as %q, is written as %x, error %d", list, show(l), again, e)
	}
	byId := map[int][]byte{}
	for _, x := range l {
		byId[x.Id] = x.Value
	}
	return byId
}

// P15.1 to P15.4: an authority's extensions, as the library makes them.
func TestLibraryAuthority(t *testing.T) {
	id := api.KeyId{1, 2, 3, 19: 20}
	_, network, err := net.ParseCIDR("10.0.0.0/8")
	if err != nil {
		t.Fatal(err)
	}
	template := &x509.Certificate{
		Subject: pkix.Name{CommonName: "authority"}, IsCA: true, BasicConstraintsValid: true, MaxPathLen: 3, KeyUsage: x509.KeyUsageCertSign | x509.KeyUsageCRLSign, SubjectKeyId: id[:],
		PermittedDNSDomainsCritical: true, PermittedDNSDomains: []string{"a.b", "c"}, PermittedIPRanges: []*net.IPNet{network}, ExcludedDNSDomains: []string{"x.a.b"}, ExcludedEmailAddresses: []string{".a.b", "a@b"},
	}
	list, own := made(t, template, template)
	v := values(t, list)
	basics().takes(t, api.Basic{CA: true, Path: 3}, v[api.EBasic])
	usages().takes(t, 1<<5|1<<6, v[api.EUsage])
	subjects().takes(t, id, v[api.ESubject])
	trees().takes(t, api.Trees{
		Permitted: []api.Subtree{{Kind: 2, Base: "a.b"}, {Kind: 2, Base: "c"}, {Kind: 7, Base: "\x0a\x00\x00\x00\xff\x00\x00\x00"}},
		Excluded:  []api.Subtree{{Kind: 2, Base: "x.a.b"}, {Kind: 1, Base: ".a.b"}, {Kind: 1, Base: "a@b"}},
	}, v[api.ETrees])
	l, _ := ext.Decode(list)
	for i, x := range own.Extensions {
		if want := (api.Ext{Id: x.Id[3], Critical: x.Critical, Value: x.Value}); len(l) != len(own.Extensions) || !probe.SameExt(l[i], want) {
			t.Errorf("%q; want %q", show(l[i]), show(want))
		}
	}

	list, _ = made(t, &x509.Certificate{
		Subject: pkix.Name{CommonName: "host"}, KeyUsage: x509.KeyUsageDigitalSignature | x509.KeyUsageDecipherOnly, BasicConstraintsValid: true, MaxPathLen: -1, ExtKeyUsage: []x509.ExtKeyUsage{x509.ExtKeyUsageServerAuth, x509.ExtKeyUsageClientAuth, x509.ExtKeyUsageOCSPSigning},
		DNSNames: []string{"a.b", "*.c.d"}, EmailAddresses: []string{"a@b"}, IPAddresses: []net.IP{{10, 0, 0, 255}, net.ParseIP("2001:db8::1")},
	}, own)
	v = values(t, list)
	basics().takes(t, api.Basic{Path: -1}, v[api.EBasic])
	usages().takes(t, 1<<0|1<<8, v[api.EUsage])
	purposes().takes(t, []int{1, 2, 9}, v[api.EPurpose])
	issuers().takes(t, id, v[api.EIssuer])
	names().takes(t, []api.General{{Kind: 2, Text: "a.b"}, {Kind: 2, Text: "*.c.d"}, {Kind: 1, Text: "a@b"}, {Kind: 7, Text: "\x0a\x00\x00\xff"}, {Kind: 7, Text: "\x20\x01\x0d\xb8\x00\x00\x00\x00\x00\x00\x00\x00\x00\x00\x00\x01"}}, v[api.ENames])
}

// P15.2, P15.3: a list's number, and the reasons of its entries, as the library makes them.
func TestLibraryList(t *testing.T) {
	key := libraryKey(t)
	above := &x509.Certificate{KeyUsage: x509.KeyUsageCRLSign, SubjectKeyId: make([]byte, 20)}
	for n, reason := range map[int]int{0: 1, 1: 2, 127: 3, 128: 4, 1 << 40: 5, 1<<63 - 1: 6, 7: 8, 8: 9, 9: 10} {
		b, err := x509.CreateRevocationList(nil, &x509.RevocationList{
			Number: big.NewInt(int64(n)), ThisUpdate: time.Unix(0, 0), NextUpdate: time.Unix(1, 0),
			RevokedCertificateEntries: []x509.RevocationListEntry{{SerialNumber: big.NewInt(1), RevocationTime: time.Unix(0, 0), ReasonCode: reason}},
		}, above, key)
		if err != nil {
			t.Fatal(err)
		}
		list, err := x509.ParseRevocationList(b)
		if err != nil {
			t.Fatal(err)
		}
		at := slices.IndexFunc(list.Extensions, func(x pkix.Extension) bool { return x.Id[3] == api.ENumber })
		numbers().takes(t, n, list.Extensions[at].Value)
		reasons().takes(t, reason, list.RevokedCertificateEntries[0].Extensions[0].Value)
		issuers().takes(t, api.KeyId{}, list.Extensions[1-at].Value)
	}
}
