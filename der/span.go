package der

import (
	"bytes"
	"iter"

	"chancery/api"
)

const (
	lowBits        = 31  // of a tag; all ones would say that more of the tag follows
	constructedBit = 32  // of a tag
	maxShort       = 127 // the greatest length that is one byte
	longLength     = 128 // what is added to the number of bytes of a longer length
	maxLengthBytes = 3   // as many as MaxContent needs
)

// A span is an element that is told by places alone, so that looking at one copies nothing.
// Its content lies from a place up to another, counted from the element's first byte.
type span struct{ tag, from, to int }

func (s span) constructed() bool { return s.tag&constructedBit != 0 }

// element answers the element itself; b begins with it.
func (s span) element(b []byte) api.Element {
	return api.Element{Tag: s.tag, Content: bytes.Clone(b[s.from:s.to])}
}

// spans goes over the elements with which b begins, each with its place, up to the first that is wrong.
func spans(b []byte) iter.Seq2[int, span] {
	return func(yield func(int, span) bool) {
		for at := 0; at < len(b); {
			s, e := find(b[at:])
			if e != api.OK || !yield(at, s) {
				return
			}
			at += s.to
		}
	}
}

// find looks at the element with which b begins. The order of its questions is promised (P1.2).
func find(b []byte) (span, api.Errno) {
	if len(b) == 0 {
		return span{}, api.ErrShort
	}
	tag := int(b[0])
	if !isTag(tag) {
		return span{}, api.ErrTag
	}
	if len(b) == 1 {
		return span{}, api.ErrShort
	}
	n, size, e := takeLength(b[1:])
	if e != api.OK {
		return span{}, e
	}
	from := 1 + size
	if n > len(b)-from {
		return span{}, api.ErrShort
	}
	return span{tag: tag, from: from, to: from + n}, api.OK
}

func isTag(tag int) bool {
	return tag >= 0 && tag <= 255 && tag&lowBits != lowBits
}

// takeLength reads the length with which b begins, and tells how many bytes it has. There is a first byte.
func takeLength(b []byte) (int, int, api.Errno) {
	first := int(b[0])
	if first <= maxShort {
		return first, 1, api.OK
	}
	k := first - longLength
	if k == 0 || k > maxLengthBytes {
		return 0, 0, api.ErrLength
	}
	digits := b[1:]
	if len(digits) > 0 && digits[0] == 0 {
		return 0, 0, api.ErrLength
	}
	if len(digits) < k {
		return 0, 0, api.ErrShort
	}
	n := 0
	for _, d := range digits[:k] {
		n = n<<8 | int(d)
	}
	if n <= maxShort {
		return 0, 0, api.ErrLength
	}
	return n, 1 + k, api.OK
}

// putLength lays a length behind b; n is at most MaxContent.
func putLength(b []byte, n int) []byte {
	if n <= maxShort {
		return append(b, byte(n))
	}
	k := Size(n) - 2
	b = append(b, byte(longLength+k))
	for k--; k >= 0; k-- {
		b = append(b, byte(n>>(8*k)))
	}
	return b
}

// comparePadded compares two byte strings as if the shorter one had zeros behind it.
func comparePadded(x, y []byte) int {
	n := min(len(x), len(y))
	switch c := bytes.Compare(x[:n], y[:n]); {
	case c != 0:
		return c
	case !allZero(x[n:]):
		return 1
	case !allZero(y[n:]):
		return -1
	}
	return 0
}

func allZero(b []byte) bool {
	for _, x := range b {
		if x != 0 {
			return false
		}
	}
	return true
}
