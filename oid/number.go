package oid

import (
	"iter"
	"math/bits"
	"strings"

	"chancery/api"
)

const (
	digitBits = 7              // of a byte, beside the one that says that more bytes follow
	base      = 1 << digitBits // of a content's digits
	more      = 1 << digitBits // what is added in each byte but a number's last one
)

// size tells how many bytes a number has: 0 has one too.
func size(n int) int {
	return max(1, (bits.Len(uint(n))+digitBits-1)/digitBits)
}

// put lays a number's bytes behind b.
func put(b []byte, n int) []byte {
	for k := size(n) - 1; k > 0; k-- {
		b = append(b, byte(n>>(digitBits*k))|more)
	}
	return append(b, byte(n%base))
}

// numbers goes over the numbers in a content, each with the place of its first byte; at one that is wrong it gives up.
func numbers(b []byte) iter.Seq2[int, int] {
	return func(yield func(int, int) bool) {
		for at := 0; at < len(b); {
			n := number(b[at:])
			if !yield(at, n) {
				return
			}
			at += size(n) // in the one form there is no byte more
		}
	}
}

// number reads the number with which b begins. There is a first byte. The order of its questions is promised (P3.2).
func number(b []byte) int {
	if b[0] == more {
		panic(api.ErrPad)
	}
	n := 0
	for _, x := range b {
		n = behind(n, base, int(x%base), api.ErrArc)
		if x < more {
			return n
		}
	}
	panic(api.ErrShort)
}

// behind lays a digit behind those that n has; above MaxArc it gives up, with that error.
func behind(n, radix, digit int, above api.Errno) int {
	// Asked ahead of reckoning, so that no product can wrap round.
	if n > (api.MaxArc-digit)/radix {
		panic(above)
	}
	return n*radix + digit
}

// sound tells how many bytes the numbers have that stand ahead of the first one that is wrong.
func sound(b []byte) (end int) {
	defer func() {
		_ = recover() // end is then where the number begins that gave up
	}()
	for at, n := range numbers(b) {
		end = at + size(n)
	}
	return end
}

// parts goes over the parts of a text: what stands ahead of, between and behind its points.
func parts(s string) iter.Seq[string] {
	return func(yield func(string) bool) {
		rest, found := s, true
		for found {
			var part string
			part, rest, found = strings.Cut(rest, point)
			if !yield(part) {
				return
			}
		}
	}
}

// decimal reads an arc in decimal digits; at what is none it gives up.
func decimal(part string) int {
	if part == "" || part[0] == '0' && part != "0" {
		panic(api.ErrOID)
	}
	n := 0
	for _, c := range []byte(part) {
		if c < '0' || c > '9' {
			panic(api.ErrOID)
		}
		n = behind(n, 10, int(c-'0'), api.ErrOID)
	}
	return n
}
