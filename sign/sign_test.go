package sign_test

import (
	"bytes"
	"crypto/sha256"
	"math/big"
	"slices"
	"testing"

	"chancery/api"
	"chancery/probe"
	"chancery/sign"
)

// signatures are keys and texts with R and S, written out; those of rfcKey with sample and test stand in RFC 6979, the others are another program's. The text wv[vnX has a first value that is no try, 2arukzr a digest above n.
var signatures = []struct{ key, text, r, s string }{
	{"01", "", "0e69cb117664cedd6734e80151eabd388de266533e163fbe8ea463065c0fd71a", "c284e67e0baf2cf8e07896a5c5f222cad11e35c997c18c59d79bdbad6881783c"},
	{"01", "ab", "56d4b4be62f3a99458dcb47c9a51f5b1a014850524f62bee730267987153a200", "2f49780114ca87c734972c8e8dcf821895667776c17bfd39da70cc37b4b60fae"},
	{"01", "sample", "0466341174d59e93eb984c2a7c923a80ab99a9e91555bc73ebd8073d4c722121", "998f2b7bb63082e976215e6ae46344d66d2d4edea67d65d91595f21311df5030"},
	{"01", "2arukzr", "a149242df842df63ec888b83b3fcf58f46fe151502632cfd553bae17862f2d40", "246f2598523038810293c03bfc1641535f7b6277b08f32d3c101bafba5895055"},
	{"02", "", "455f5d50d851d716fd28a4b7d8dad4af0a99446069ec542f3b70a19b8e1df430", "65f1001398a9aae8336ad599c9fabb6e5487c37681c6aa0c0058180437ed9097"},
	{"02", "test", "4a40cb3a5038fe8950e12ff5165896ed86bc7284a978f39c18007a696d77a0b2", "053fd5565c37072443730673f584e48475d0090c8eaaba5ed468c3fb1aabea85"},
	{"02", "2arukzr", "039841c5475e69443fe451288f551e7cead95686d90ece7a337900da035bbe3e", "bb49031fc9007b96e0cdd7b5c0c2aa61261ec720b1a359da152cb9404adcb225"},
	{"05", "ab", "37f754146b69003a36976d4b4337893b956f238ed6af5e5ce0c1f684fadbe961", "70f135b0f27ecd373f199e7a2db80ba8d3613f6fdb0ee1c1b7e23670e5e386ce"},
	{rfcKey, "sample", "efd48b2aacb6a8fd1140dd9cd45e81d69d2c877b56aaf991c34d0ea84eaf3716", "f7cb1c942d657c41d436c7a1b6e29f65f3e900dbb9aff4064dc4ab2f843acda8"},
	{rfcKey, "test", "f1abb023518351cd71d881567b1ea663ed3efcf6c5132b354f28d3b0b7d38367", "019f4113742a2b14bd25926b49c649155f267e60d3814b4c0cc84250e46f0083"},
	{rfcKey, "wv[vnX", "efd9073b652e76da1b5a019c0e4a2e3fa529b035a6abb91ef67f0ed7a1f21234", "3db4706c9d9f4a4fe13bb5e08ef0fab53a57dbab2061c83a35fa411c68d2ba33"},
	{rfcKey, "2arukzr", "d1b8866a308fc7a7bdbe60daefb35f8890b2a713c9f14a9b335dd0e81b944929", "6c8e2a34deee6d405d3e7068005d1b11fb58a301bef1bc96ed2d363c616d2901"},
	{"8fa3aab2faa9b79e0a0398da5b5abd0780142442a5be80b9a64608d718cb1fcd", "", "aa7080722157368a802f6c59e383c6ef876a7d85195778107618a07460691208", "690f0e81c65e37d95300ed09ff717b95ccd53b16dfe8b10dd5f6e2d0f310f4e1"},
	{"8fa3aab2faa9b79e0a0398da5b5abd0780142442a5be80b9a64608d718cb1fcd", "sample", "f884635ea3f991c86d75bf110765f097d1c67d5b77ad1cee639cfc6e9ffa78b0", "856732ed0386245a852869b1091bcac5e51c700059d39d4d86aacc2ed21a1e0a"},
	{"ffffffff00000000ffffffffffffffffbce6faada7179e84f3b9cac2fc632550", "", "9a4460ec5a9484c194d61987c2d9bddb2ada0e708fdf51ae0fe5974d8580012d", "c3f2dbedc40a96ef521afd115ad45c3043e30d612fcdd411ec3833abd6715b4d"},
	{"ffffffff00000000ffffffffffffffffbce6faada7179e84f3b9cac2fc632550", "test", "2ce08f4caf567510c7507c24e916ed767f67724844e9152a05bd91284b6bc8ed", "073eefa8066f28e4e357f97b3e118fbaa32656bef04d78636a86c9e1d9288e67"},
	{"ffffffff00000000ffffffffffffffffbce6faada7179e84f3b9cac2fc632550", "2arukzr", "ce7ba22ebbb79305d3f1a44bdb5b4649e92dfcae0b1c2187bcc69c421767fcf2", "eb6cce5c6afde7a040a950316a4e3713883d70a812487b17dcea953e2acfe91d"},
}

// P11.3: signatures that are written out.
func TestSign(t *testing.T) {
	for _, c := range signatures {
		s, e := sign.Sign(hexed(c.key), []byte(c.text))
		is(t, c.key+", "+c.text, s, e, api.Signature{R: hexed(c.r), S: hexed(c.s)})
	}
}

// P11.3: what is signed is what the library signs, and what the chapter's words say of the first try.
func TestSignByLibrary(t *testing.T) {
	for _, d := range keys() {
		for _, text := range texts() {
			h := api.Digest(sha256.Sum256(text))
			want := librarySignature(t, d, h)
			s, e := sign.Sign(d, text)
			is(t, "Sign", s, e, want)
			is(t, "by words", by(t, d, h, triesOf(d, h)[0]), api.OK, want)
		}
	}
}

// P11.3: a text of no byte, however it is written.
func TestSignNothing(t *testing.T) {
	for _, d := range keys() {
		want := librarySignature(t, d, sha256.Sum256(nil))
		for _, pieces := range [][][]byte{nil, {}, {nil}, {{}}, {nil, {}}, {{}, nil, {}}, make([][]byte, 1000)} {
			s, e := sign.Sign(d, pieces...)
			is(t, "of nothing", s, e, want)
		}
		s, e := sign.Sign(d)
		is(t, "of no piece", s, e, want)
	}
}

// cuts are a text in pieces, cut in other ways.
func cuts(text []byte) [][][]byte {
	n := len(text)
	l := [][][]byte{{text}, {nil, text}, {text, {}}, {nil, text, nil}, probe.Cut(text, n/2), probe.Cut(text, 0, n/3, n/3, n)}
	var single []int
	for i := range n {
		single = append(single, i)
	}
	return append(l, probe.Cut(text, single...))
}

// P11.3: a text is all of its pieces, wherever it is cut.
func TestSignPieces(t *testing.T) {
	for _, text := range texts() {
		want := librarySignature(t, hexed(rfcKey), sha256.Sum256(text))
		for _, pieces := range cuts(text) {
			s, e := sign.Sign(hexed(rfcKey), pieces...)
			is(t, "cut", s, e, want)
		}
	}
	text := bytes.Repeat([]byte("much "), 50000)
	s, e := sign.Sign(small(5), slices.Repeat([][]byte{[]byte("much ")}, 50000)...)
	is(t, "many pieces", s, e, librarySignature(t, small(5), sha256.Sum256(text)))
}

// P11.3: pieces in another order are another text.
func TestSignOrder(t *testing.T) {
	a, b := []byte("a"), []byte("b")
	if one, other := signed(t, small(5), a, b), signed(t, small(5), b, a); one == other {
		t.Errorf("both %s", show(one))
	}
}

// P11.3: what is no key signs nothing.
func TestSignByNoKey(t *testing.T) {
	for _, d := range noKeys() {
		for _, pieces := range [][][]byte{nil, {nil}, {[]byte("ab")}, {[]byte("a"), []byte("b")}} {
			s, e := sign.Sign(d, pieces...)
			refuses(t, "no key", s, e, api.ErrKey)
		}
	}
}

// P11.3: the text's number is the digest modulo n.
func TestDigestsAtEdges(t *testing.T) {
	for _, d := range keys() {
		for _, h := range digests() {
			s, e := sign.First(d, h, sign.Nonces(d, h))
			is(t, "at an edge", s, e, librarySignature(t, d, h))
			is(t, "by words", by(t, d, h, triesOf(d, h)[0]), api.OK, s)
			z := digest(rest(value(h)))
			other, e := sign.First(d, z, sign.Nonces(d, z))
			is(t, "the rest", other, e, s)
		}
	}
}

// lacking is the digest with which S is 0, by this key and try.
func lacking(t *testing.T, d, try api.Digest) api.Digest {
	t.Helper()
	return less(digest(product(value(libraryPoint(t, try).X), value(d))))
}

// P11.3: it is the first try with which a signature goes.
func TestTryThatDoesNotGo(t *testing.T) {
	for i, d := range keys() {
		tries := chance(4)
		bad, good := tries[i%4], tries[(i+1)%4]
		h := lacking(t, d, bad)
		want := by(t, d, h, good)
		for _, l := range [][]api.Digest{{good}, {bad, good}, {bad, bad, good, bad}, {good, bad}, {bad, good, tries[(i+2)%4]}} {
			s, e := sign.First(d, h, slices.Values(l))
			is(t, "the first that goes", s, e, want)
		}
	}
}

// P11.3: the tries 1, 2 and n - 1.
func TestTriesAtEdges(t *testing.T) {
	for _, d := range keys() {
		for _, h := range digests() {
			for _, try := range []api.Digest{small(1), small(2), nAnd(-2), nAnd(-1)} {
				s, e := sign.First(d, h, slices.Values([]api.Digest{try}))
				is(t, "at an edge", s, e, by(t, d, h, try))
			}
		}
	}
}

// P11.3: ErrNone where no try goes.
func TestNoTryGoes(t *testing.T) {
	for _, d := range keys() {
		try := chance(1)[0]
		h := lacking(t, d, try)
		for _, l := range [][]api.Digest{nil, {try}, {try, try}, {less(try)}} {
			s, e := sign.First(d, h, slices.Values(l))
			refuses(t, "no try", s, e, api.ErrNone)
		}
	}
}

// P11.3: behind a try that goes no other one is asked for.
func TestNoTryBehind(t *testing.T) {
	asked := 0
	s, e := sign.First(small(5), small(7), func(yield func(api.Digest) bool) {
		for try := int64(2); ; try++ {
			if asked++; !yield(small(try)) {
				return
			}
		}
	})
	is(t, "by try 2", s, e, by(t, small(5), small(7), small(2)))
	if asked != 1 {
		t.Errorf("%d tries", asked)
	}
}

// P11.3: a signature goes, if neither number is 0.
func TestGoes(t *testing.T) {
	for _, c := range []struct {
		r, s int64
		goes bool
	}{{0, 0, false}, {0, 1, false}, {1, 0, false}, {1, 1, true}, {256, 512, true}} {
		if sign.Goes(api.Signature{R: small(c.r), S: small(c.s)}) != c.goes {
			t.Errorf("%d, %d: %t", c.r, c.s, !c.goes)
		}
	}
}

// P11.3: R and S of what is signed are from 1 to n - 1, and satisfy the chapter's words with the try.
func TestSignedNumbers(t *testing.T) {
	for _, d := range chance(30) {
		h := api.Digest(sha256.Sum256(d[:]))
		s := signed(t, d, d[:])
		if !sign.May(s.R) || !sign.May(s.S) {
			t.Errorf("%s", show(s))
		}
		one := product(value(s.S), value(triesOf(d, h)[0]))
		other := rest(new(big.Int).Add(value(h), product(value(s.R), value(d))))
		if one.Cmp(other) != 0 {
			t.Errorf("s t is %x; want %x", one, other)
		}
	}
}
