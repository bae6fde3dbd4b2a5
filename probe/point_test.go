package probe_test

import (
	"crypto/ecdsa"
	"crypto/elliptic"
	"math/big"
	"slices"
	"testing"

	"chancery/api"
	"chancery/probe"
)

func value(d api.Digest) *big.Int { return new(big.Int).SetBytes(d[:]) }

func TestDigests(t *testing.T) {
	most := probe.Plus(api.Digest{}, -1)
	for _, c := range []struct{ got, want api.Digest }{
		{probe.Small(0), api.Digest{}}, {probe.Small(1), api.Digest{31: 1}}, {probe.Small(0x1234), api.Digest{30: 0x12, 31: 0x34}}, {probe.Small(1 << 62), api.Digest{24: 0x40}},
		{probe.Plus(api.Digest{30: 1}, -1), api.Digest{31: 0xff}}, {probe.Plus(api.Digest{31: 0xff}, 1), api.Digest{30: 1}}, {probe.Plus(most, 1), api.Digest{}},
		{most, api.Digest(slices.Repeat([]byte{0xff}, 32))}, {probe.Turned(api.Digest{}, 0), api.Digest{1}}, {probe.Turned(api.Digest{31: 0x80}, 255), api.Digest{}}, {probe.Turned(api.Digest{}, 9), api.Digest{0, 2}},
	} {
		if c.got != c.want {
			t.Errorf("%x; want %x", c.got, c.want)
		}
	}
	if !panics(func() { probe.Hexed("00") }) {
		t.Error("one byte is a number of 32")
	}
}

func TestCurve(t *testing.T) {
	own := elliptic.P256().Params()
	if value(probe.Prime()).Cmp(own.P) != 0 || value(probe.Order()).Cmp(own.N) != 0 || value(probe.Base().X).Cmp(own.Gx) != 0 || value(probe.Base().Y).Cmp(own.Gy) != 0 {
		t.Error("the curve's numbers are others")
	}
	for i, p := range probe.Multiples() {
		d := probe.Small(i + 2)
		key, err := ecdsa.ParseRawPrivateKey(elliptic.P256(), d[:])
		if err != nil {
			t.Fatal(err)
		}
		b, err := key.PublicKey.Bytes()
		if err != nil || api.Digest(b[1:33]) != p.X || api.Digest(b[33:]) != p.Y || p.Inf {
			t.Errorf("%d times the base: %v", i+2, p)
		}
	}
}

// lies tells whether a point is one of the curve, and not the far one, by the library.
func lies(p api.Point) bool {
	_, err := ecdsa.ParseUncompressedPublicKey(elliptic.P256(), slices.Concat([]byte{4}, p.X[:], p.Y[:]))
	return err == nil && !p.Inf
}

func TestPoints(t *testing.T) {
	seen := map[api.Point]int{}
	for _, p := range probe.Points() {
		q := probe.Across(p)
		if seen[p]++; !lies(p) || !lies(q) || q.X != p.X || q.Y == p.Y || seen[p] > 1 {
			t.Errorf("%v, across %v, %d times", p, q, seen[p])
		}
	}
	for _, p := range probe.NoPoints() {
		if seen[p]++; lies(p) || seen[p] > 1 {
			t.Errorf("%v, %d times", p, seen[p])
		}
	}
	if seen[probe.ZeroPoint()] != 1 || probe.ZeroPoint().X != probe.Small(0) || seen[probe.FlatPoint()] != 1 || probe.FlatPoint().Y != probe.Small(1) || seen[api.Point{Inf: true}] != 1 {
		t.Error("a point is missing")
	}
}

func TestKeys(t *testing.T) {
	for _, d := range probe.Keys() {
		if _, err := ecdsa.ParseRawPrivateKey(elliptic.P256(), d[:]); err != nil {
			t.Errorf("%x: %v", d, err)
		}
	}
	for _, d := range probe.NoKeys() {
		if _, err := ecdsa.ParseRawPrivateKey(elliptic.P256(), d[:]); err == nil {
			t.Errorf("%x is a key", d)
		}
	}
	if l := probe.Keys(); probe.Plus(l[len(l)-2], 1) != probe.NoKeys()[1] {
		t.Errorf("%x is not the greatest key", l[len(l)-2])
	}
}
