package slip

import (
	"bytes"
	"iter"

	"chancery/api"
)

const (
	maxKind  = 255
	headSize = 3 // the kind, and the number of the data
	sumSize  = 4
)

// spans goes over the slips with which b begins, up to the first that is wrong: each by the place where it begins and the one behind it, so that going over them copies nothing.
func spans(b []byte) iter.Seq2[int, int] {
	return func(yield func(int, int) bool) {
		for from := 0; from < len(b); {
			size, e := find(b[from:])
			if e != api.OK || !yield(from, from+size) {
				return
			}
			from += size
		}
	}
}

// find tells how many bytes the slip has with which b begins.
func find(b []byte) (int, api.Errno) {
	if len(b) < headSize {
		return 0, api.ErrTorn
	}
	size := Size(int(b[1]) | int(b[2])<<8)
	if len(b) < size {
		return 0, api.ErrTorn
	}
	end := size - sumSize
	if Sum(b[:end]) != takeSum(b[end:]) {
		return 0, api.ErrSum
	}
	return size, api.OK
}

// read is the slip that b is.
func read(b []byte) api.Slip {
	return api.Slip{Kind: int(b[0]), Data: bytes.Clone(b[headSize : len(b)-sumSize])}
}

// putSum lays a sum's bytes behind b.
func putSum(b []byte, sum uint32) []byte {
	return append(b, byte(sum), byte(sum>>8), byte(sum>>16), byte(sum>>24))
}

// takeSum is the sum with which b begins.
func takeSum(b []byte) uint32 {
	return uint32(b[0]) | uint32(b[1])<<8 | uint32(b[2])<<16 | uint32(b[3])<<24
}
