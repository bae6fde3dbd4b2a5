package host

import (
	"strings"

	"chancery/api"
)

const (
	dash     = '-'
	marks    = "_+-" // what a local part may have beside letters, digits and dots
	maxLocal = 64    // bytes of a local part
)

// all tells whether each byte of a text may stand at its place.
func all(s string, may func(place int, b byte) bool) bool {
	for place := range len(s) {
		if !may(place, s[place]) {
			return false
		}
	}
	return true
}

// isLabel tells whether a text is a label.
func isLabel(s string) bool {
	last := len(s) - 1
	return 0 < len(s) && len(s) <= api.MaxLabel && all(s, func(place int, b byte) bool {
		return isPlain(b) || b == dash && 0 < place && place < last
	})
}

// isNumber tells whether a text is digits alone.
func isNumber(s string) bool {
	return all(s, func(_ int, b byte) bool { return isDigit(b) })
}

// isLocal tells whether a text is a mail address's local part.
func isLocal(s string) bool {
	if len(s) > maxLocal {
		return false
	}
	for piece := range Labels(s) {
		// An empty piece is beside a dot at an end, or between two in a row, or all there is.
		if piece == "" || !all(piece, func(_ int, b byte) bool { return isPlain(b) || strings.IndexByte(marks, b) >= 0 }) {
			return false
		}
	}
	return true
}

// isPlain tells whether a byte is a letter or a digit.
func isPlain(b byte) bool { return 'A' <= b && b <= 'Z' || 'a' <= b && b <= 'z' || isDigit(b) }

func isDigit(b byte) bool { return '0' <= b && b <= '9' }

// behindFirst is what stands behind a text's first label and its dot; of one label nothing.
func behindFirst(s string) string {
	_, rest, _ := strings.Cut(s, dot)
	return rest
}
