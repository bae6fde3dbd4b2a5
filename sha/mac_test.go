package sha_test

import (
	"bytes"
	"testing"

	"chancery/probe"
	"chancery/sha"
)

// P8.1: the chapter's example, and others written out.
func TestMac(t *testing.T) {
	long := bytes.Repeat([]byte{0xaa}, 131)
	for _, c := range []struct {
		key  []byte
		text string
		want string
	}{
		{[]byte("Jefe"), "what do ya want for nothing?", "5bdcc146 bf60754e 6a042426 089575c7 5a003f08 9d273983 9dec58b9 64ec3843"},
		{nil, "", "b613679a 0814d9ec 772f95d7 78c35fc5 ff1697c4 93715653 c6c71214 4292c5ad"},
		{bytes.Repeat([]byte{0x0b}, 20), "Hi There", "b0344c61 d8db3853 5ca8afce af0bf12b 881dc200 c9833da7 26e9376c 2e32cff7"},
		{bytes.Repeat([]byte{0xaa}, 20), string(bytes.Repeat([]byte{0xdd}, 50)), "773ea91e 36800e46 854db8eb d09181a7 2959098b 3ef8c122 d9635514 ced565fe"},
		{probe.Raw("0102030405060708090a0b0c0d0e0f10111213141516171819"), string(bytes.Repeat([]byte{0xcd}, 50)), "82558a38 9a443c0e a4cc8198 99f2083a 85f0faa3 e578f807 7a2e3ff4 6729665b"},
		{long, "Test Using Larger Than Block-Size Key - Hash Key First", "60e43159 1ee0b67f 0d8a26aa cbf5b77f 8e0bc621 3728c514 0546040f 0ee37f54"},
		{long, "This is a test using a larger than block-size key and a larger than block-size data. The key needs to be hashed before being used by the HMAC algorithm.", "9b09ffa7 1b942fcb 27635fbc d5b0e944 bfdc6364 4f071393 8a7f5153 5c3a35e2"},
	} {
		is(t, c.text, sha.Mac(c.key, []byte(c.text)), digest(c.want))
	}
}

// P8.1: keys and texts of nothing, however they are written.
func TestMacOfNothing(t *testing.T) {
	none := digest("b613679a 0814d9ec 772f95d7 78c35fc5 ff1697c4 93715653 c6c71214 4292c5ad")
	for _, key := range [][]byte{nil, {}, {0}, make([]byte, 64)} {
		for _, b := range [][][]byte{nil, {}, {nil}, {{}}, {nil, {}, nil}} {
			is(t, "nothing", sha.Mac(key, b...), none)
		}
	}
	for _, key := range [][]byte{nil, []byte("Jefe"), text(64), text(65)} {
		is(t, "pieces", sha.Mac(key, nil, []byte("a"), []byte{}, []byte("bc"), nil), libMac(key, []byte("abc")))
	}
}

// P8.1: keys of all lengths of some blocks, and texts of those at which something changes; by the library.
func TestEachKeyLength(t *testing.T) {
	for n := range 200 {
		for _, key := range texts(n) {
			for _, length := range lengths {
				b := text(length)
				is(t, "Mac", sha.Mac(key, b), libMac(key, b))
			}
		}
	}
}

// P8.1: texts of all lengths, with keys of those at which something changes; by the library.
func TestEachTextLength(t *testing.T) {
	for _, n := range keyLengths {
		key := text(n)
		for length := range 5*64 + 2 {
			b := text(length)
			is(t, "Mac", sha.Mac(key, b), libMac(key, b))
		}
	}
}

// P8.1: each bit of a key counts, and of each byte in its place.
func TestEachKeyBit(t *testing.T) {
	for _, n := range []int{1, 63, 64, 65} {
		seen := map[[32]byte]int{}
		for i := range 8 * n {
			key := make([]byte, n)
			key[i/8] = 1 << (i % 8)
			d := sha.Mac(key, []byte("abc"))
			is(t, "Mac", d, libMac(key, []byte("abc")))
			if j, ok := seen[d]; ok {
				t.Errorf("a key of %d bytes: bits %d and %d are alike", n, i, j)
			}
			seen[d] = i
		}
	}
}

// P8.1: the key is no text: where the one ends and the other begins counts.
func TestKeyAndText(t *testing.T) {
	b := []byte("abcdef")
	for i := range b {
		for j := range i {
			if sha.Mac(b[:i], b[i:]) == sha.Mac(b[:j], b[j:]) {
				t.Errorf("keys of %d and %d bytes", i, j)
			}
		}
		if sha.Mac(b[:i], b[i:]) == sha.Sum(b) {
			t.Errorf("a key of %d bytes, and none", i)
		}
	}
}
