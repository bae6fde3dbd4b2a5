package cert_test

import (
	"bytes"
	"crypto/ecdsa"
	"crypto/sha256"
	"crypto/x509"
	"slices"
	"testing"

	"chancery/api"
	"chancery/cert"
	"chancery/curve"
	"chancery/probe"
)

const baseKey = "30 59 30 13 06 07 2a 86 48 ce 3d 02 01 06 08 2a 86 48 ce 3d 03 01 07 03 42 00 04" +
	"6b17d1f2 e12c4247 f8bce6e5 63a440f2 77037d81 2deb33a0 f4a13945 d898c296" +
	"4fe342e2 fe1a7f9b 8ee7eb4a 7c0f9e16 2bce3357 6b315ece cbb64068 37bf51f5"

// P16.1: a key's bytes that are written out.
func TestKnownKey(t *testing.T) {
	if b, e := cert.Key(curve.Base()); e != api.OK || !bytes.Equal(b, raw(baseKey)) || len(b) != 91 {
		t.Errorf("%x, error %d", b, e)
	}
	if p, e := cert.ToKey(raw(baseKey)); e != api.OK || p != curve.Base() {
		t.Errorf("%s, error %d", show(p), e)
	}
}

// P16.1: keys of each sort, as the library writes and names them.
func TestKeys(t *testing.T) {
	for _, p := range probe.Points() {
		b, e := cert.Key(p)
		if e != api.OK || !bytes.Equal(b, keyBytes(p)) {
			t.Errorf("Key(%s): %x, error %d", show(p), b, e)
		}
		if got, e := cert.ToKey(keyBytes(p)); e != api.OK || got != p {
			t.Errorf("ToKey(%x): %s, error %d", keyBytes(p), show(got), e)
		}
		h := sha256.Sum256(pointBytes(p))
		if k, e := cert.Id(p); e != api.OK || !bytes.Equal(k[:], h[:20]) {
			t.Errorf("Id(%s): %x, error %d", show(p), k, e)
		}
	}
}

// P16.1: the name of a key that is written out, with all of its 20 bytes.
func TestKnownId(t *testing.T) {
	want := raw("69 8b ea 63 dc 44 a3 44 66 3f f1 42 9a ea 10 84 2d f2 7b 6b")
	if k, e := cert.Id(base); e != api.OK || !bytes.Equal(k[:], want) {
		t.Errorf("%x, error %d", k, e)
	}
}

// P16.1: what is no point of the curve, and the far one.
func TestNoKeys(t *testing.T) {
	for _, p := range probe.NoPoints() {
		if b, e := cert.Key(p); e != api.ErrPoint || len(b) > 0 {
			t.Errorf("Key(%s): %x, error %d", show(p), b, e)
		}
		if k, e := cert.Id(p); e != api.ErrPoint || k != (api.KeyId{}) {
			t.Errorf("Id(%s): %x, error %d", show(p), k, e)
		}
	}
}

// P16.1: what the library makes of keys' bytes, and they of its.
func TestKeyByLibrary(t *testing.T) {
	for n := 1; n < 20; n++ {
		key := libraryKey(t, probe.Small(n))
		b, err := x509.MarshalPKIXPublicKey(key.Public())
		if err != nil {
			t.Fatal(err)
		}
		if p, e := cert.ToKey(b); e != api.OK || p != libraryPoint(t, probe.Small(n)) {
			t.Errorf("ToKey(%x): %s, error %d", b, show(p), e)
		}
		own, e := cert.Key(public(t, probe.Small(n)))
		if got, err := x509.ParsePKIXPublicKey(own); err != nil || e != api.OK || !key.PublicKey.Equal(got.(*ecdsa.PublicKey)) {
			t.Errorf("%x: %v, error %d", own, err, e)
		}
	}
}

// keyOf is a key's bytes of an algorithm's parts and a BIT STRING's content.
func keyOf(parts, content string) []byte {
	return probe.Put(0x30, probe.Put(0x30, raw(parts)), probe.Put(3, raw(content)))
}

const (
	ecKey  = "06 07 2a 86 48 ce 3d 02 01"
	onP256 = "06 08 2a 86 48 ce 3d 03 01 07"
)

// P16.1: bytes of keys, with something else in them.
func TestToKeyOfNone(t *testing.T) {
	k := keyReader()
	content := baseKey[len("30 59 30 13 06 07 2a 86 48 ce 3d 02 01 06 08 2a 86 48 ce 3d 03 01 07 03 42 "):]
	if !k.AsShould(t, keyOf(ecKey+onP256, content)) {
		t.Fatal("the key is not taken")
	}
	for what, parts := range map[string]string{
		"no algorithm":           "",
		"without a curve":        ecKey,
		"without an algorithm":   onP256,
		"in another order":       onP256 + ecKey,
		"the algorithm twice":    ecKey + ecKey + onP256,
		"the curve twice":        ecKey + onP256 + onP256,
		"NULL instead":           ecKey + "05 00",
		"NULL behind":            ecKey + onP256 + "05 00",
		"another algorithm, RSA": "06 09 2a 86 48 86 f7 0d 01 01 01" + "05 00",
		"ECDH's algorithm":       "06 05 2b 81 04 01 0c" + onP256,
		"a signature's one":      "06 08 2a 86 48 ce 3d 04 03 02" + onP256,
		"the curve P-384":        ecKey + "06 05 2b 81 04 00 22",
		"the curve P-192":        ecKey + "06 08 2a 86 48 ce 3d 03 01 01",
		"an arc more":            ecKey + "06 09 2a 86 48 ce 3d 03 01 07 01",
		"an arc fewer":           ecKey + "06 07 2a 86 48 ce 3d 03 01",
		"an arc too long":        ecKey + "06 09 2a 86 48 ce 3d 03 01 80 07",
	} {
		k.None(t, what, keyOf(parts, content))
	}
	for what, bits := range map[string]string{
		"no content":                   "",
		"no bits":                      "00",
		"the far point":                "00 00",
		"a bit unused":                 "01" + content[2:],
		"seven bits unused":            "07" + content[2:],
		"eight bits unused":            "08" + content[2:],
		"a byte fewer":                 content[:len(content)-2],
		"a byte more":                  content + "00",
		"without the first byte":       "00" + content[5:],
		"the first byte 0":             "00 00" + content[5:],
		"the first byte 2":             "00 02" + content[5:],
		"the first byte 3":             "00 03" + content[5:],
		"the first byte 5":             "00 05" + content[5:],
		"the first byte 6":             "00 06" + content[5:],
		"the first byte 7":             "00 07" + content[5:],
		"compressed":                   "00 03 6b17d1f2 e12c4247 f8bce6e5 63a440f2 77037d81 2deb33a0 f4a13945 d898c296",
		"compressed, with an even one": "00 02 6b17d1f2 e12c4247 f8bce6e5 63a440f2 77037d81 2deb33a0 f4a13945 d898c296",
	} {
		k.None(t, what, keyOf(ecKey+onP256, bits))
	}
	for _, p := range probe.NoPoints() {
		if p.Inf { // of which the bytes say nothing
			continue
		}
		k.None(t, "no point", libraryBytes(formOf(p)))
	}
}

// P16.1: points whose last bits are 0, of which some are said to be unused.
func TestToKeyUnusedBits(t *testing.T) {
	count, k := 0, keyReader()
	for n := 1; n < 300; n++ {
		p := libraryPoint(t, probe.Small(n))
		for unused := byte(1); unused <= 7 && p.Y[31]<<(8-unused) == 0; unused++ {
			count++
			b := bytes.Clone(keyBytes(p))
			b[25] = unused
			k.None(t, "unused bits that are 0", b)
		}
	}
	if count < 100 {
		t.Errorf("%d points", count)
	}
}

// P16.1: nothing of a key's bytes is missing, or stands there twice.
func TestToKeyParts(t *testing.T) {
	k := keyReader()
	b := raw(baseKey)
	k.None(t, "without the algorithm", probe.Put(0x30, b[23:]))
	k.None(t, "without the bits", probe.Put(0x30, b[2:23]))
	k.None(t, "the bits ahead", probe.Put(0x30, b[23:], b[2:23]))
	k.None(t, "the bits twice", probe.Put(0x30, b[2:], b[23:]))
	k.None(t, "the algorithm twice", probe.Put(0x30, b[2:23], b[2:]))
	k.None(t, "something behind", probe.Put(0x30, b[2:], raw("05 00")))
	k.None(t, "within another one", probe.Put(0x30, b))
	k.None(t, "another tag", slices.Concat([]byte{0x31}, b[1:]))
}
