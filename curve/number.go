package curve

import (
	"math/bits"

	"chancery/api"
)

const (
	words     = 4
	wordBits  = 64
	wordBytes = wordBits / 8
)

// The words of the chapter's p, the lowest first.
const (
	p0 = 0xffffffffffffffff
	p1 = 0x00000000ffffffff
	p2 = 0x0000000000000000
	p3 = 0xffffffff00000001
)

// plain is any number of 256 bits, the lowest word first.
type plain [words]uint64

// number is a number of the field in Montgomery's form, in which products are reduced without a division: what it stands for, times 2 to the power 256, modulo p. The lowest word is first.
type number [words]uint64

var (
	// one stands for 1.
	one = number{1, 0xffffffff00000000, 0xffffffffffffffff, 0x00000000fffffffe}
	// lift stands for 2 to the power 256.
	lift = number{0x0000000000000003, 0xfffffffbffffffff, 0xfffffffffffffffe, 0x00000004fffffffd}
)

// lifted is the number that stands for a; there is none, unless a is below p.
func lifted(a plain) (number, bool) {
	if below(a[0], a[1], a[2], a[3], 0) != number(a) {
		return number{}, false
	}
	return number(a).times(lift), true
}

// lowered is what a number stands for.
func (a number) lowered() plain { return plain(a.times(number{1})) }

// plus is a sum.
func (a number) plus(b number) number {
	s0, carry := bits.Add64(a[0], b[0], 0)
	s1, carry := bits.Add64(a[1], b[1], carry)
	s2, carry := bits.Add64(a[2], b[2], carry)
	s3, carry := bits.Add64(a[3], b[3], carry)
	return below(s0, s1, s2, s3, carry)
}

// minus is a difference.
func (a number) minus(b number) number {
	s0, borrow := bits.Sub64(a[0], b[0], 0)
	s1, borrow := bits.Sub64(a[1], b[1], borrow)
	s2, borrow := bits.Sub64(a[2], b[2], borrow)
	s3, borrow := bits.Sub64(a[3], b[3], borrow)
	if borrow == 0 {
		return number{s0, s1, s2, s3}
	}
	s0, carry := bits.Add64(s0, p0, 0)
	s1, carry = bits.Add64(s1, p1, carry)
	s2, carry = bits.Add64(s2, p2, carry)
	s3, _ = bits.Add64(s3, p3, carry)
	return number{s0, s1, s2, s3}
}

// times is a product: what stands for it is a times b, over 2 to the power 256.
// Each word of b adds a so many times; then p is added so many times that the lowest word is 0, which falls away.
func (a number) times(b number) number {
	var s0, s1, s2, s3, top uint64 // below 2 p behind each word of b
	for _, word := range b {
		var over uint64
		over, s0 = fused(a[0], word, s0, 0)
		over, s1 = fused(a[1], word, s1, over)
		over, s2 = fused(a[2], word, s2, over)
		over, s3 = fused(a[3], word, s3, over)
		top += over  // which a word holds: 2 to the power 64, and 1, times p is below 2 to the power 320
		lowest := s0 // p is added so many times; since p0 is 2 to the power 64, less 1, this is over then too
		over, s0 = fused(p1, lowest, s1, lowest)
		over, s1 = fused(p2, lowest, s2, over)
		over, s2 = fused(p3, lowest, s3, over)
		s3, top = bits.Add64(top, over, 0)
	}
	return below(s0, s1, s2, s3, top)
}

// fused is a times b, and c and d more, which has two words at most.
func fused(a, b, c, d uint64) (high, low uint64) {
	high, low = bits.Mul64(a, b)
	low, carry := bits.Add64(low, c, 0)
	high += carry
	low, carry = bits.Add64(low, d, 0)
	return high + carry, low
}

// below is the rest modulo p of what is below 2 p.
func below(s0, s1, s2, s3, top uint64) number {
	r0, borrow := bits.Sub64(s0, p0, 0)
	r1, borrow := bits.Sub64(s1, p1, borrow)
	r2, borrow := bits.Sub64(s2, p2, borrow)
	r3, borrow := bits.Sub64(s3, p3, borrow)
	if borrow > top {
		return number{s0, s1, s2, s3}
	}
	return number{r0, r1, r2, r3}
}

// inverse is what gives 1 with a number that is not 0: by Fermat, its power p - 2.
func (a number) inverse() number {
	reached := one
	for _, word := range [words]uint64{p3, p2, p1, p0 - 2} {
		for range wordBits {
			reached = reached.times(reached)
			if word>>(wordBits-1) == 1 {
				reached = reached.times(a)
			}
			word <<= 1
		}
	}
	return reached
}

// toDigest is a number's bytes, the highest first.
func toDigest(a plain) api.Digest {
	var d api.Digest
	for i := range d {
		behind := len(d) - 1 - i
		d[i] = byte(a[behind/wordBytes] >> (behind % wordBytes * 8))
	}
	return d
}

// fromDigest is the number of such bytes.
func fromDigest(d api.Digest) plain {
	var a plain
	for i, x := range d {
		behind := len(d) - 1 - i
		a[behind/wordBytes] |= uint64(x) << (behind % wordBytes * 8)
	}
	return a
}
