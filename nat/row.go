package nat

import (
	"cmp"
	"math"
	"math/bits"

	"chancery/api"
)

// order compares two numbers, trimmed.
func order(a, b api.Nat) int {
	if len(a) != len(b) {
		return cmp.Compare(len(a), len(b))
	}
	for i := range len(a) {
		at := len(a) - 1 - i // the highest limb that differs decides
		if a[at] != b[at] {
			return cmp.Compare(a[at], b[at])
		}
	}
	return 0
}

// limb is a number's limb at i, 0 behind its end.
func limb(a api.Nat, i int) uint64 {
	if i < len(a) {
		return a[i]
	}
	return 0
}

// addTimes adds x times b to a row that is at least as long, and answers what is carried out of it.
func addTimes(row, b api.Nat, x uint64) uint64 {
	var carry, over uint64
	for i := range len(row) {
		high, low := bits.Mul64(limb(b, i), x)
		low, over = bits.Add64(low, carry, 0)
		high += over // a product and two limbs fit into two limbs
		row[i], over = bits.Add64(row[i], low, 0)
		carry = high + over
	}
	return carry
}

// subTimes takes x times b from a row that is at least as long, and answers what is borrowed beyond it.
func subTimes(row, b api.Nat, x uint64) uint64 {
	var carry, over uint64
	for i := range len(row) {
		high, low := bits.Mul64(limb(b, i), x)
		low, over = bits.Add64(low, carry, 0)
		high += over // if this is the greatest limb then low is 0, and nothing is borrowed
		row[i], over = bits.Sub64(row[i], low, 0)
		carry = high + over
	}
	return carry
}

// divide is the quotient and the rest of two numbers, trimmed, b not 0; these are not trimmed.
func divide(a, b api.Nat) (quotient, rest api.Nat) {
	// Both are moved up so far that b's highest bit is set: then its highest limb is enough to guess by.
	shift := bits.LeadingZeros64(b[len(b)-1])
	rest = make(api.Nat, len(a)+1)
	addTimes(rest, a, 1<<shift)
	by := make(api.Nat, len(b))
	addTimes(by, b, 1<<shift)

	quotient = make(api.Nat, max(0, len(a)-len(b)+1)) // none of a shorter number, which is all rest
	for i := range len(quotient) {
		at := len(quotient) - 1 - i
		end := at + len(by) + 1
		quotient[at] = divideRow(rest[at:end:end], by)
	}
	moveDown(rest, shift)
	return quotient, rest
}

// divideRow is how often a number, whose highest bit is set, goes into a row of one limb more; the row becomes the rest.
// Without its lowest limb the row is below that number, so the answer is one limb.
func divideRow(row, by api.Nat) uint64 {
	n := len(by)
	q := guess(row[n], row[n-1], by[n-1])
	below := subTimes(row, by, q)
	for below != 0 {
		q--
		below -= addTimes(row, by, 1) // carried out of the row just if it is no longer below 0
	}
	return q
}

// guess is how often a number goes into a row, told by their highest limbs: never too little, and by 2 too much at most.
func guess(high, low, top uint64) uint64 {
	if high >= top {
		return math.MaxUint64 // more than one limb would come, and the answer is one
	}
	q, _ := bits.Div64(high, low, top)
	return q
}

// moveDown divides a row by a power of two, below that of a limb.
func moveDown(row api.Nat, shift int) {
	for i := range len(row) {
		row[i] = row[i]>>shift | limb(row, i+1)<<(limbBits-shift)
	}
}
