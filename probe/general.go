package probe

import (
	"math"
	"slices"
	"strings"

	"chancery/api"
)

// LongHost is a host's name of n bytes, in labels as long as they may be.
func LongHost(n int) string {
	var l []string
	for ; n > 64; n -= 64 {
		l = append(l, strings.Repeat("b", 63))
	}
	if n == 64 { // a label and a dot would leave no byte for the last one
		l, n = append(l, "c"), n-2
	}
	return strings.Join(append(l, strings.Repeat("a", n)), ".")
}

// NoKinds are numbers that are no kind of a general name.
func NoKinds() []int {
	l := []int{0, 3, 5, 6, 8, 9, 10, 16, 127, 255, -1, -2, -4, -7, -8}
	for _, k := range []int{api.GEmail, api.GDNS, api.GName, api.GIP} {
		l = append(l, k+1<<8, k+1<<16, k+1<<31, k+1<<32, k-1<<32, math.MinInt+k, math.MaxInt-k)
	}
	return append(l, math.MaxInt, math.MinInt)
}

// Changed is a text that is one byte away from s: by another one, one more, or one fewer.
func (d *Draws) Changed(s, alphabet string) string {
	b := []byte(s)
	at := int(d.Next() % uint64(len(b)+1))
	x := alphabet[d.Next()%uint64(len(alphabet))]
	switch {
	case d.Next()%3 == 0 || at == len(b):
		return string(slices.Insert(b, at, x))
	case d.Next()%2 == 0:
		return string(slices.Delete(b, at, at+1))
	}
	b[at] = x
	return string(b)
}
