package sha_test

import (
	"bytes"
	"crypto/sha256"
	"testing"

	"chancery/api"
	"chancery/sha"
)

// P8.1: the chapter's examples, and others written out.
func TestSum(t *testing.T) {
	for _, c := range []struct{ text, want string }{
		{"", "e3b0c442 98fc1c14 9afbf4c8 996fb924 27ae41e4 649b934c a495991b 7852b855"},
		{"abc", "ba7816bf 8f01cfea 414140de 5dae2223 b00361a3 96177a9c b410ff61 f20015ad"},
		{"abcdbcdecdefdefgefghfghighijhijkijkljklmklmnlmnomnopnopq", "248d6a61 d20638b8 e5c02693 0c3e6039 a33ce459 64ff2167 f6ecedd4 19db06c1"},
		{"abcdefghbcdefghicdefghijdefghijkefghijklfghijklmghijklmnhijklmnoijklmnopjklmnopqklmnopqrlmnopqrsmnopqrstnopqrstu", "cf5b16a7 78af8380 036ce59e 7b049237 0b249b11 e8f07a51 afac4503 7afee9d1"},
		{"\xbd", "68325720 aabd7c82 f30f554b 313d0570 c95accbb 7dc4b5aa e11204c0 8ffe732b"},
		{"\x00\x00\x00\x00", "df3f6198 04a92fdb 4057192d c43dd748 ea778adc 52bc498c e80524c0 14b81119"},
	} {
		is(t, c.text, sha.Sum([]byte(c.text)), digest(c.want))
	}
	is(t, "a, bc", sha.Sum([]byte("a"), []byte("bc")), sha.Sum([]byte("abc")))
	is(t, "a million a", sha.Sum(bytes.Repeat([]byte("a"), 1000000)), digest("cdc76e5c 9914fb92 81a1c7e2 84d73e67 f1809a48 a497200e 046d39cc c7112cd0"))
}

// P8.1: nothing, however it is written, and empty pieces among others.
func TestSumOfNothing(t *testing.T) {
	none := digest("e3b0c442 98fc1c14 9afbf4c8 996fb924 27ae41e4 649b934c a495991b 7852b855")
	for _, b := range [][][]byte{nil, {}, {nil}, {{}}, {nil, nil}, {{}, nil, {}}, make([][]byte, 1000)} {
		is(t, "nothing", sha.Sum(b...), none)
	}
	abc := sha.Sum([]byte("abc"))
	a, b, c := []byte("a"), []byte("b"), []byte("c")
	for _, l := range [][][]byte{{nil, a, b, c}, {{}, a, {}, b, nil, c}, {a, b, c, nil}, {a, b, c, {}, {}}, {nil, nil, []byte("abc"), nil}} {
		is(t, "abc", sha.Sum(l...), abc)
	}
}

// P8.1: texts of all lengths of some blocks; by the library.
func TestEachLength(t *testing.T) {
	for n := range 5*64 + 2 {
		for _, b := range texts(n) {
			is(t, "Sum", sha.Sum(b), libSum(b))
		}
	}
}

// P8.1: each bit of a block, of the next one and of those in which the padding stands, alone.
func TestEachBit(t *testing.T) {
	for _, n := range []int{55, 56, 64, 128} {
		for i := range 8 * n {
			b := make([]byte, n)
			b[i/8] = 1 << (i % 8)
			is(t, "Sum", sha.Sum(b), libSum(b))
		}
	}
}

// P8.1: texts of many blocks, whose number of bits needs one byte more, and two; by the library.
func TestManyBlocks(t *testing.T) {
	for _, n := range []int{31, 32, 33, 8191, 8192, 8193, 64 * 1024, 1<<21 - 1, 1 << 21, 1<<21 + 1} {
		b := text(n)
		is(t, "Sum", sha.Sum(b), libSum(b))
	}
}

// P8.1: a text of 2 to the power 29 bytes, whose number of bits needs more than one word, and those of one byte less and more; by the library.
func TestGreatCount(t *testing.T) {
	h, lib := sha.New(), sha256.New()
	piece := text(1 << 20)
	for range 1<<9 - 1 {
		write(t, h, piece)
		lib.Write(piece)
	}
	for _, b := range [][]byte{piece[1:], piece[:1], piece[:1]} {
		write(t, h, b)
		lib.Write(b)
		is(t, "Sum", h.Sum(), api.Digest(lib.Sum(nil)))
	}
	if h.Len() != 1<<29+1 {
		t.Error(h.Len())
	}
}
