// Package probe has what the tests of several layers need. No layer stands on it.
package probe

import (
	"bytes"
	"strconv"
	"strings"
)

// Raw makes bytes of digits to the base 16; blanks between them count for nothing. It panics at what is not digits, two a byte.
func Raw(digits string) []byte {
	digits = strings.ReplaceAll(digits, " ", "")
	b := make([]byte, 0, len(digits)/2)
	for ; len(digits) > 1; digits = digits[2:] {
		x, err := strconv.ParseUint(digits[:2], 16, 8)
		if err != nil {
			panic("probe: no digits: " + digits)
		}
		b = append(b, byte(x))
	}
	if digits != "" {
		panic("probe: half a byte: " + digits)
	}
	return b
}

// Roomy is b with spare room behind it that must not be touched; whole is both.
func Roomy(b []byte) (part, whole []byte) {
	whole = append(bytes.Clone(b), bytes.Repeat([]byte{0xee}, 40)...)
	return whole[:len(b):len(whole)], whole
}

// Scribble writes over a list, and over all the spare room behind it.
func Scribble(b []byte, with byte) {
	b = b[:cap(b)]
	for i := range b {
		b[i] = with
	}
}

// Short goes over all strings of at most n bytes out of an alphabet. Each is memory of its own.
func Short(alphabet []byte, n int) func(yield func([]byte) bool) {
	return func(yield func([]byte) bool) {
		var down func(b []byte) bool
		down = func(b []byte) bool {
			if !yield(bytes.Clone(b)) {
				return false
			}
			if len(b) == n {
				return true
			}
			for _, x := range alphabet {
				if !down(append(bytes.Clone(b), x)) {
					return false
				}
			}
			return true
		}
		down(nil)
	}
}
