// Package probe has what the tests of several layers need. No layer stands on it.
package probe

import (
	"slices"
	"strconv"
	"strings"
)

// Raw makes bytes of digits to the base 16; blanks between them count for nothing. It panics at what is not digits, two a byte.
func Raw(digits string) []byte {
	digits = strings.ReplaceAll(digits, " ", "")
	b := make([]byte, 0, len(digits)/2)
	for ; len(digits) > 1; digits = digits[2:] {
		x, err := strconv.ParseUint(digits[:2], 16, 8)
		if err != nil {
			panic("probe: no digits: " + digits)
		}
		b = append(b, byte(x))
	}
	if digits != "" {
		panic("probe: half a byte: " + digits)
	}
	return b
}

// unit is what the lists are made of that layers take: bytes, or limbs.
type unit interface{ byte | uint64 }

// Roomy is l with spare room behind it that must not be touched; whole is both.
func Roomy[T unit](l []T) (part, whole []T) { return RoomyWith(l, 0xee) }

// RoomyWith is l with spare room behind it, in which something stands; whole is both.
func RoomyWith[T any](l []T, spare T) (part, whole []T) {
	whole = append(slices.Clone(l), slices.Repeat([]T{spare}, 40)...)
	return whole[:len(l):len(whole)], whole
}

// Scribble writes over a list, and over all the spare room behind it.
func Scribble[T any](l []T, with T) {
	l = l[:cap(l)]
	for i := range l {
		l[i] = with
	}
}

// Short goes over all rows of at most n units out of an alphabet. Each is memory of its own.
func Short[T unit](alphabet []T, n int) func(yield func([]T) bool) {
	return func(yield func([]T) bool) {
		var down func(l []T) bool
		down = func(l []T) bool {
			if !yield(slices.Clone(l)) {
				return false
			}
			if len(l) == n {
				return true
			}
			for _, x := range alphabet {
				if !down(append(slices.Clone(l), x)) {
					return false
				}
			}
			return true
		}
		down(nil)
	}
}
