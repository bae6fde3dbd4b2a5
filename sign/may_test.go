package sign_test

import (
	"math/big"
	"testing"

	"chancery/api"
	"chancery/probe"
	"chancery/sign"
)

// rfcKey is the key of RFC 6979's examples.
const rfcKey = "c9afa9d845ba75166b5c215767b1d6934e50c3db36e89b127b8a622b120f6721"

// points are keys with their points, written out.
var points = []struct{ key, x, y string }{
	{"01", "6b17d1f2e12c4247f8bce6e563a440f277037d812deb33a0f4a13945d898c296", "4fe342e2fe1a7f9b8ee7eb4a7c0f9e162bce33576b315ececbb6406837bf51f5"},
	{"02", "7cf27b188d034f7e8a52380304b51ac3c08969e277f21b35a60b48fc47669978", "07775510db8ed040293d9ac69f7430dbba7dade63ce982299e04b79d227873d1"},
	{"05", "51590b7a515140d2d784c85608668fdfef8c82fd1f5be52421554a0dc3d033ed", "e0c17da8904a727d8ae1bf36bf8a79260d012f00d4d80888d1d0bb44fda16da4"},
	{rfcKey, "60fed4ba255a9d31c961eb74c6356d68c049b8923b61fa6ce669622e60f29fb6", "7903fe1008b8bc99a41ae9e95628bc64f2f1b20c2d7e9f5177a3c294d4462299"},
	{"8fa3aab2faa9b79e0a0398da5b5abd0780142442a5be80b9a64608d718cb1fcd", "b5144c79c574fd1d74c9dbc35364624f218cdff6bd68a3dd1aba4b9a94e7395f", "aa5152197a094f9c7b408e657d6f42b5225955a216d36ebc2411b6f8055f6783"},
	{"ffffffff00000000ffffffffffffffffbce6faada7179e84f3b9cac2fc632550", "6b17d1f2e12c4247f8bce6e563a440f277037d812deb33a0f4a13945d898c296", "b01cbd1c01e58065711814b583f061e9d431cca994cea1313449bf97c840ae0a"},
}

// P11.1: a key is from 1 to n - 1.
func TestMay(t *testing.T) {
	for _, d := range keys() {
		if !sign.May(d) {
			t.Errorf("May(%x): false", d)
		}
	}
	for _, d := range noKeys() {
		if sign.May(d) {
			t.Errorf("May(%x): true", d)
		}
	}
}

// P11.1: a number that differs from n at one byte or bit is a key just if it is below n.
func TestMayNextToOrder(t *testing.T) {
	n := nAnd(0)
	for bit := range 256 {
		d := turned(n, bit)
		if sign.May(d) != (value(d).Cmp(order) < 0) {
			t.Errorf("May(%x): %t", d, sign.May(d))
		}
		if d = turned(api.Digest{}, bit); !sign.May(d) {
			t.Errorf("May(%x): false", d)
		}
	}
	for more := int64(-300); more <= 300; more++ {
		if d := nAnd(more); sign.May(d) != (more < 0) {
			t.Errorf("May(n and %d): %t", more, sign.May(d))
		}
	}
}

// P11.1: keys that look like chance, and numbers made of words at which something changes.
func TestMayOfWords(t *testing.T) {
	var draws probe.Draws
	for range 2000 {
		x := new(big.Int)
		for _, limb := range draws.Number(4) {
			x.Or(x.Lsh(x, 64), new(big.Int).SetUint64(limb))
		}
		if want := x.Sign() > 0 && x.Cmp(order) < 0; sign.May(digest(x)) != want {
			t.Errorf("May(%x): %t", x, !want)
		}
	}
}

// P11.1: points that are written out.
func TestPublic(t *testing.T) {
	for _, c := range points {
		want := api.Point{X: hexed(c.x), Y: hexed(c.y)}
		if p, e := sign.Public(hexed(c.key)); e != api.OK || p != want {
			t.Errorf("Public(%s): %s, error %d", c.key, at(p), e)
		}
	}
	if p := public(t, small(1)); p != base {
		t.Errorf("Public(1): %s", at(p))
	}
}

// P11.1: a key's point is what the library says.
func TestPublicByLibrary(t *testing.T) {
	for _, d := range append(keys(), chance(60)...) {
		if p := public(t, d); p != libraryPoint(t, d) {
			t.Errorf("Public(%x): %s", d, at(p))
		}
	}
}

// P11.1: what is no key has no point, though a multiple of the base there is.
func TestPublicOfNoKey(t *testing.T) {
	for _, d := range noKeys() {
		if p, e := sign.Public(d); e != api.ErrKey || p != (api.Point{}) {
			t.Errorf("Public(%x): %s, error %d", d, at(p), e)
		}
	}
}
