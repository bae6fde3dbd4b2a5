package text

import (
	"strings"
	"unicode"
)

const (
	marks = " '()+,-./:=?" // what a PrintableString may have beside letters and digits
	shift = 'a' - 'A'
)

// all tells whether each character of a text may be there. Bytes that are no character are asked for as one beyond IA5.
func all(s string, may func(rune) bool) bool {
	for _, r := range s {
		if !may(r) {
			return false
		}
	}
	return true
}

// isPrintable tells whether a PrintableString may have a character.
func isPrintable(r rune) bool {
	return isGreat(r) || 'a' <= r && r <= 'z' || '0' <= r && r <= '9' || strings.ContainsRune(marks, r)
}

// isIA5 tells whether an IA5String may have a character: just those of one byte.
func isIA5(r rune) bool { return r <= unicode.MaxASCII }

// isGreat tells whether a character is a letter from A to Z.
func isGreat(r rune) bool { return 'A' <= r && r <= 'Z' }

// small is the small letter of a great one; all else stays as it is.
func small(b byte) byte {
	if isGreat(rune(b)) {
		return b + shift
	}
	return b
}
