package num

// shortest drops the bytes ahead that say nothing, but leaves one: 0 has a byte too.
func shortest(b []byte) []byte {
drop:
	for len(b) > 1 {
		switch {
		case idle(b[0], b[1]):
			b = b[1:]
		default:
			break drop
		}
	}
	return b
}

// idle tells whether an integer's first byte only says again what the next one's highest bit says.
func idle(first, next byte) bool {
	return first == 0 && !below0(next) || first == 255 && below0(next)
}

// below0 tells whether an integer that begins so is below 0.
func below0(first byte) bool { return first >= 128 }

// isInteger tells whether b is an integer's content.
func isInteger(b []byte) bool {
	return len(b) == 1 || len(b) > 1 && !idle(b[0], b[1])
}

// areBits tells whether there is a BIT STRING of these bytes with so many unused bits.
func areBits(b []byte, unused int) bool {
	if unused < 0 || unused > 7 {
		return false
	}
	if len(b) == 0 {
		return unused == 0
	}
	return b[len(b)-1]&(1<<unused-1) == 0
}

// isBitString tells whether b is a BIT STRING's content.
func isBitString(b []byte) bool {
	return len(b) > 0 && areBits(b[1:], int(b[0]))
}

// endsWith0 tells whether a BIT STRING has bits, the last of which is 0.
func endsWith0(b []byte, unused byte) bool {
	return len(b) > 0 && b[len(b)-1]>>unused&1 == 0
}
