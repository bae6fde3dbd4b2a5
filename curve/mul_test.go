package curve_test

import (
	"crypto/ecdh"
	"math/big"
	"testing"

	"chancery/api"
	"chancery/curve"
	"chancery/probe"
)

// multiples of the base, written out.
var multiples = []struct{ k, x, y string }{
	{"0000000000000000000000000000000000000000000000000000000000000001", "6b17d1f2e12c4247f8bce6e563a440f277037d812deb33a0f4a13945d898c296", "4fe342e2fe1a7f9b8ee7eb4a7c0f9e162bce33576b315ececbb6406837bf51f5"},
	{"0000000000000000000000000000000000000000000000000000000000000002", "7cf27b188d034f7e8a52380304b51ac3c08969e277f21b35a60b48fc47669978", "07775510db8ed040293d9ac69f7430dbba7dade63ce982299e04b79d227873d1"},
	{"0000000000000000000000000000000000000000000000000000000000000003", "5ecbe4d1a6330a44c8f7ef951d4bf165e6c6b721efada985fb41661bc6e7fd6c", "8734640c4998ff7e374b06ce1a64a2ecd82ab036384fb83d9a79b127a27d5032"},
	{"0000000000000000000000000000000000000000000000000000000000000004", "e2534a3532d08fbba02dde659ee62bd0031fe2db785596ef509302446b030852", "e0f1575a4c633cc719dfee5fda862d764efc96c3f30ee0055c42c23f184ed8c6"},
	{"0000000000000000000000000000000000000000000000000000000000000005", "51590b7a515140d2d784c85608668fdfef8c82fd1f5be52421554a0dc3d033ed", "e0c17da8904a727d8ae1bf36bf8a79260d012f00d4d80888d1d0bb44fda16da4"},
	{"0000000000000000000000000000000000000000000000000000000000000006", "b01a172a76a4602c92d3242cb897dde3024c740debb215b4c6b0aae93c2291a9", "e85c10743237dad56fec0e2dfba703791c00f7701c7e16bdfd7c48538fc77fe2"},
	{"0000000000000000000000000000000000000000000000000000000000000007", "8e533b6fa0bf7b4625bb30667c01fb607ef9f8b8a80fef5b300628703187b2a3", "73eb1dbde03318366d069f83a6f5900053c73633cb041b21c55e1a86c1f400b4"},
	{"0000000000000000000000000000000000000000000000000000000000000008", "62d9779dbee9b0534042742d3ab54cadc1d238980fce97dbb4dd9dc1db6fb393", "ad5accbd91e9d8244ff15d771167cee0a2ed51f6bbe76a78da540a6a0f09957e"},
	{"0000000000000000000000000000000000000000000000000000000000000009", "ea68d7b6fedf0b71878938d51d71f8729e0acb8c2c6df8b3d79e8a4b90949ee0", "2a2744c972c9fce787014a964a8ea0c84d714feaa4de823fe85a224a4dd048fa"},
	{"000000000000000000000000000000000000000000000000000000000000000a", "cef66d6b2a3a993e591214d1ea223fb545ca6c471c48306e4c36069404c5723f", "878662a229aaae906e123cdd9d3b4c10590ded29fe751eeeca34bbaa44af0773"},
	{"0000000000000000000000000000000000000000000000000000000000000014", "83a01a9378395bab9bcd6a0ad03cc56d56e6b19250465a94a234dc4c6b28da9a", "76e49b6de2f73234ae6a5eb9d612b75c9f2202bb6923f54ff8240aaa86f640b8"},
	{"000000000000000000000000000000000000000000000000018ebbb95eed0e13", "339150844ec15234807fe862a86be77977dbfb3ae3d96f4c22795513aeaab82f", "b1c14ddfdc8ec1b2583f51e85a5eb3a155840f2034730e9b5ada38b674336a21"},
	{"0000000000000000000000000000000000159d893d4cdd747246cdca43590e13", "1b7e046a076cc25e6d7fa5003f6729f665cc3241b5adab12b498cd32f2803264", "bfea79be2b666b073db69a2a241adab0738fe9d2dd28b5604eb8c8cf097c457b"},
	{"41ffc1fffffe01fffc0003fffe0007c001fff00003fff07ffe0007c000000003", "9eace8f4b071e677c5350b02f2bb2b384aae89d58aa72ca97a170572e0fb222f", "1bbdaec2430b09b93f7cb08678636ce12eaafd58390699b5fd2f6e1188fc2a78"},
	{"fffffc03fffc003fffffc007fff00000000070000100000000ffffffffffffff", "3ba562193edeecc9821be8735805d4bd99026b084ccb32303d7b90db45d4a491", "c98ae58cbb8c08728017be55aec52c1b3302869aa87e1c0ba8c2e8bfdb29327c"},
	{"8000000000000000000000000000000000000000000000000000000000000000", "77b20a912e6b23135066e911891524bc4efe3560e3e92350b52dec8f375f2b54", "a3dc291825cea3f7f7b10bfcdd038a72df623da1e850e0f1caa801fcd6cc67ff"},
	{"7fffffffffffffffffffffffffffffffffffffffffffffffffffffffffffffff", "c1d17269e46e387acbe299ec2cc9cc2dada3f05e4cf412f2ad946b700aa2613a", "edb7744f370c13a4f49957d54ff798119d111f69129c24db5f5fb84162909dbb"},
	{"ffffffff00000000ffffffffffffffffbce6faada7179e84f3b9cac2fc63254e", "5ecbe4d1a6330a44c8f7ef951d4bf165e6c6b721efada985fb41661bc6e7fd6c", "78cb9bf2b6670082c8b4f931e59b5d1327d54fcac7b047c265864ed85d82afcd"},
	{"ffffffff00000000ffffffffffffffffbce6faada7179e84f3b9cac2fc63254f", "7cf27b188d034f7e8a52380304b51ac3c08969e277f21b35a60b48fc47669978", "f888aaee24712fc0d6c26539608bcf244582521ac3167dd661fb4862dd878c2e"},
	{"ffffffff00000000ffffffffffffffffbce6faada7179e84f3b9cac2fc632550", "6b17d1f2e12c4247f8bce6e563a440f277037d812deb33a0f4a13945d898c296", "b01cbd1c01e58065711814b583f061e9d431cca994cea1313449bf97c840ae0a"},
	{"ffffffff00000000ffffffffffffffffbce6faada7179e84f3b9cac2fc632552", "6b17d1f2e12c4247f8bce6e563a440f277037d812deb33a0f4a13945d898c296", "4fe342e2fe1a7f9b8ee7eb4a7c0f9e162bce33576b315ececbb6406837bf51f5"},
	{"ffffffff00000000ffffffffffffffffbce6faada7179e84f3b9cac2fc632553", "7cf27b188d034f7e8a52380304b51ac3c08969e277f21b35a60b48fc47669978", "07775510db8ed040293d9ac69f7430dbba7dade63ce982299e04b79d227873d1"},
	{"ffffffffffffffffffffffffffffffffffffffffffffffffffffffffffffffff", "f72cbd240e26c0d21b1023179586eb532c6102c49c3677cc1a3d132b9db9d31a", "43e4ca77e2a36621dc0dbd91bfe7a5d223250ef0cdca831ee453d93fa83408a7"},
	{"7fffffff800000007fffffffffffffffde737d56d38bcf4279dce5617e3192a8", "2afa386b3f2bdcdb83f4d83f8fa3874d7b74dcb454bd644fdd6bf3d1f2da8db6", "72184be1caa8563462b536f10852d665ae8a64fdf1eb8d4c946ad589796f729c"},
	{"7fffffff800000007fffffffffffffffde737d56d38bcf4279dce5617e3192a9", "2afa386b3f2bdcdb83f4d83f8fa3874d7b74dcb454bd644fdd6bf3d1f2da8db6", "8de7b41d3557a9cc9d4ac90ef7ad299a51759b030e1472b36b952a7686908d63"},
}

// counts are numbers of 32 bytes at which something changes.
func counts() []api.Digest {
	l := []api.Digest{{}, small(1), small(2), small(3), small(255), small(256), digest(prime), digest(allOnes), digest(offset(allOnes, -1))}
	for n := range int64(7) {
		l = append(l, digest(offset(order, n-3)))
	}
	half := new(big.Int).Rsh(order, 1)
	return append(l, digest(half), digest(offset(half, 1)), api.Digest{128}, api.Digest{127, 255}, api.Digest{15: 1}, api.Digest{16: 128})
}

// P10.3: written out.
func TestMul(t *testing.T) {
	for _, c := range multiples {
		k := digest(big16(c.k))
		got, e := curve.Mul(k, base)
		is(t, "Mul "+c.k, got, e, at(c.x, c.y))
		got, e = curve.Mul(k, across(base))
		is(t, "Mul of the Neg "+c.k, got, e, across(at(c.x, c.y)))
	}
}

// P10.3: small ones, by sums.
func TestMulOfSmall(t *testing.T) {
	for _, p := range few() {
		reached := far
		for k := range int64(70) {
			got, e := curve.Mul(small(k), p)
			is(t, "Mul "+big.NewInt(k).String(), got, e, reached)
			reached = total(reached, p)
		}
	}
}

// P10.3: of each sort of point, by numbers at which something changes.
func TestMulAtEdges(t *testing.T) {
	for _, p := range few() {
		for _, k := range counts() {
			got, e := curve.Mul(k, p)
			is(t, "Mul "+value(k).Text(16), got, e, multiple(new(big.Int).Mod(value(k), order), p))
		}
	}
}

// P10.3: the far point, as often as one likes.
func TestMulOfFar(t *testing.T) {
	var d probe.Draws
	l := counts()
	for range 20 {
		l = append(l, api.Digest(d.Bytes(32)))
	}
	for _, k := range l {
		got, e := curve.Mul(k, far)
		is(t, "Mul "+value(k).Text(16), got, e, far)
	}
}

// P10.3: numbers above n are not refused, and not taken for others: k times and k - n times are the same.
func TestMulAboveOrder(t *testing.T) {
	for _, p := range few() {
		for _, n := range []*big.Int{big.NewInt(0), big.NewInt(1), big.NewInt(2), big.NewInt(1000), new(big.Int).Sub(allOnes, order)} {
			got, e := curve.Mul(digest(new(big.Int).Add(order, n)), p)
			is(t, "Mul n + "+n.String(), got, e, multiple(n, p))
		}
	}
}

// P10.3: each bit of k counts, each as much as it should.
func TestMulByEachBit(t *testing.T) {
	for _, p := range []api.Point{base, chances(1)[0]} {
		want := p
		for bit := range 256 {
			var k api.Digest
			k[31-bit/8] = 1 << (bit % 8)
			got, e := curve.Mul(k, p)
			is(t, "Mul 2 to the power "+big.NewInt(int64(bit)).String(), got, e, want)
			want = total(want, want)
		}
	}
}

// P10.3: numbers and points that look like chance, by the chapter's sums.
func TestMulOfChance(t *testing.T) {
	var d probe.Draws
	for _, p := range append(chances(40), near()...) {
		k := api.Digest(d.Bytes(32))
		got, e := curve.Mul(k, p)
		is(t, "Mul "+value(k).Text(16), got, e, multiple(value(k), p))
	}
}

// P10.3: held against another program.
func TestMulAgainstLibrary(t *testing.T) {
	var d probe.Draws
	for range 500 {
		k := digest(offset(new(big.Int).Mod(value(api.Digest(d.Bytes(32))), offset(order, -1)), 1))
		got, e := curve.Mul(k, base)
		is(t, "Mul "+value(k).Text(16), got, e, libraryMultiple(t, k))
	}
	for _, p := range append(near(), ofWords()[:200]...) {
		k := digest(offset(new(big.Int).Mod(value(api.Digest(d.Bytes(32))), offset(order, -1)), 1))
		if got := mul(t, k, p); got.X != libraryX(t, k, p) || !lies(got) {
			t.Fatalf("Mul(%x, %s): %s", k, show(p), show(got))
		}
	}
}

// libraryX is the x of k times a point, by another program.
func libraryX(t *testing.T, k api.Digest, p api.Point) api.Digest {
	t.Helper()
	key, err := ecdh.P256().NewPrivateKey(k[:])
	if err != nil {
		t.Fatal(err)
	}
	other, err := ecdh.P256().NewPublicKey(encoded(p))
	if err != nil {
		t.Fatal(err)
	}
	x, err := key.ECDH(other)
	if err != nil {
		t.Fatal(err)
	}
	return api.Digest(x)
}

// P10.3: what is no point has no multiples, not even 0 times.
func TestMulOfNone(t *testing.T) {
	for _, n := range nones() {
		for _, k := range []api.Digest{{}, small(1), small(2), digest(order), digest(allOnes)} {
			got, e := curve.Mul(k, n.p)
			refuses(t, "Mul "+value(k).Text(16)+" of "+n.what, got, e)
		}
	}
}
