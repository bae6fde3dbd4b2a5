package sha

import "math/bits"

const (
	blockSize = 64 // bytes of a block
	wordSize  = 4  // bytes of a word
	rounds    = 64
	endMark   = 128 // the byte behind a text
	countSize = 2 * wordSize
)

// firstWords: h0 to h7 ahead of the first block.
var firstWords = [8]uint32{0x6a09e667, 0xbb67ae85, 0x3c6ef372, 0xa54ff53a, 0x510e527f, 0x9b05688c, 0x1f83d9ab, 0x5be0cd19}

// roundWords: k0 to k63, the beginnings of the cube roots of the prime numbers, behind the point.
var roundWords = [rounds]uint32{
	0x428a2f98, 0x71374491, 0xb5c0fbcf, 0xe9b5dba5, 0x3956c25b, 0x59f111f1, 0x923f82a4, 0xab1c5ed5,
	0xd807aa98, 0x12835b01, 0x243185be, 0x550c7dc3, 0x72be5d74, 0x80deb1fe, 0x9bdc06a7, 0xc19bf174,
	0xe49b69c1, 0xefbe4786, 0x0fc19dc6, 0x240ca1cc, 0x2de92c6f, 0x4a7484aa, 0x5cb0a9dc, 0x76f988da,
	0x983e5152, 0xa831c66d, 0xb00327c8, 0xbf597fc7, 0xc6e00bf3, 0xd5a79147, 0x06ca6351, 0x14292967,
	0x27b70a85, 0x2e1b2138, 0x4d2c6dfc, 0x53380d13, 0x650a7354, 0x766a0abb, 0x81c2c92e, 0x92722c85,
	0xa2bfe8a1, 0xa81a664b, 0xc24b8b70, 0xc76c51a3, 0xd192e819, 0xd6990624, 0xf40e3585, 0x106aa070,
	0x19a4c116, 0x1e376c08, 0x2748774c, 0x34b0bcb5, 0x391c0cb3, 0x4ed8aa4a, 0x5b9cca4f, 0x682e6ff3,
	0x748f82ee, 0x78a5636f, 0x84c87814, 0x8cc70208, 0x90befffa, 0xa4506ceb, 0xbef9a3f7, 0xc67178f2,
}

// mixed is what a block makes of the words h0 to h7.
func mixed(words [8]uint32, block [blockSize]byte) [8]uint32 {
	w := spread(block)
	a, b, c, d, e, f, g, h := words[0], words[1], words[2], words[3], words[4], words[5], words[6], words[7]
	for t := range rounds {
		p := h + (right(e, 6) ^ right(e, 11) ^ right(e, 25)) + (e&f ^ ^e&g) + roundWords[t] + w[t]
		q := (right(a, 2) ^ right(a, 13) ^ right(a, 22)) + (a&b ^ a&c ^ b&c)
		a, b, c, d, e, f, g, h = p+q, a, b, c, d+p, e, f, g
	}
	for i, x := range [8]uint32{a, b, c, d, e, f, g, h} {
		words[i] += x
	}
	return words
}

// spread is w0 to w63: a block's own words, and those that are made of them.
func spread(block [blockSize]byte) [rounds]uint32 {
	var w [rounds]uint32
	const own = blockSize / wordSize
	for t := range own {
		w[t] = word(block[t*wordSize:])
	}
	for t := own; t < rounds; t++ {
		x, y := w[t-15], w[t-2]
		w[t] = w[t-16] + (right(x, 7) ^ right(x, 18) ^ x>>3) + w[t-7] + (right(y, 17) ^ right(y, 19) ^ y>>10)
	}
	return w
}

// padding is what stands behind a text of so many bytes, up to a block's end.
func padding(count int) []byte {
	const least = 1 + countSize
	zeros := (2*blockSize - least - count%blockSize) % blockSize
	b := make([]byte, least+zeros)
	b[0] = endMark
	textBits := uint64(count) * 8
	put(b[1+zeros:], uint32(textBits>>32))
	put(b[1+zeros+wordSize:], uint32(textBits))
	return b
}

// right is a word turned right by n bits.
func right(x uint32, n int) uint32 { return bits.RotateLeft32(x, -n) }

// word is the word with which bytes begin.
func word(b []byte) uint32 {
	return uint32(b[0])<<24 | uint32(b[1])<<16 | uint32(b[2])<<8 | uint32(b[3])
}

// put writes a word over the beginning of bytes.
func put(b []byte, word uint32) {
	b[0], b[1], b[2], b[3] = byte(word>>24), byte(word>>16), byte(word>>8), byte(word)
}
