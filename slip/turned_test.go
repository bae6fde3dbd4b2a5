package slip_test

import (
	"bytes"
	"math"
	"testing"

	"chancery/api"
	"chancery/probe"
	"chancery/slip"
)

// turn turns bits from a place on, each byte's counted from the lowest up: those that the pattern has, and none of the number or behind the end. It tells whether there was one.
func turn(b []byte, from int, pattern uint32) bool {
	turned := false
	for i := range 32 {
		at := (from + i) / 8
		if pattern>>i&1 == 0 || at == 1 || at == 2 || at >= len(b) {
			continue
		}
		b[at] ^= 1 << ((from + i) % 8)
		turned = true
	}
	return turned
}

// refusesTurned fails unless a slip is refused in which these bits are turned; it is left as it was.
func refusesTurned(t *testing.T, b []byte, from int, pattern uint32) {
	t.Helper()
	if turn(b, from, pattern) {
		refuses(t, b, api.ErrSum)
		turn(b, from, pattern)
	}
}

// P9.6: each bit in turn; of those of the number, what the library says.
func TestEachBitTurned(t *testing.T) {
	for _, n := range []int{0, 1, 2, 3, 4, 255, 256, 300} {
		for _, data := range datas(n) {
			b := laid(api.Slip{Kind: 0xa5, Data: data})
			for i := range 8 * len(b) {
				wrong := bytes.Clone(b)
				wrong[i/8] ^= 1 << (i % 8)
				want := api.ErrSum
				if i/8 == 1 || i/8 == 2 {
					_, _, want = wanted(wrong)
				}
				refuses(t, wrong, want)
				tells(t, "a bit turned", wrong, nil, 0, want)
			}
		}
	}
}

// P9.6: each two bits that lie within 32, and all between them too.
func TestTwoBitsTurned(t *testing.T) {
	for _, n := range []int{0, 1, 2, 5, 20, 256} {
		b := laid(api.Slip{Kind: 0, Data: filled(n)})
		for from := range 8 * len(b) {
			for last := range 32 {
				refusesTurned(t, b, from, 1|1<<last)
				refusesTurned(t, b, from, math.MaxUint32>>(31-last))
			}
		}
	}
}

// P9.6: all patterns of 12 bits, and those of 32 that begin and end with 6 of them, at every place.
func TestShortPatternsTurned(t *testing.T) {
	for _, n := range []int{0, 1, 4, 9} {
		b := laid(api.Slip{Kind: 255, Data: filled(n)})
		for from := range 8 * len(b) {
			for pattern := uint32(1); pattern < 1<<12; pattern++ {
				refusesTurned(t, b, from, pattern)
				refusesTurned(t, b, from, pattern&63|pattern>>6<<26)
			}
		}
	}
}

// P9.6: patterns that look like chance, and those that the register itself is made of, at every place.
func TestDrawnPatternsTurned(t *testing.T) {
	var d probe.Draws
	patterns := []uint32{0xedb88320, 0x04c11db7, 0x82608edb, 0xdb710641, 0x55555555, 0xaaaaaaaa, 0xdebb20e3, 0xff00ff00, math.MaxUint32}
	for range 200 {
		patterns = append(patterns, uint32(d.Next()))
	}
	for _, n := range []int{0, 1, 2, 3, 4, 40, 255, 256} {
		b := laid(api.Slip{Kind: 1, Data: filled(n)})
		for from := range 8 * len(b) {
			for _, pattern := range patterns {
				refusesTurned(t, b, from, pattern)
			}
		}
	}
}

// P9.6: of the longest slip, around its edges and in its middle.
func TestTurnedInLong(t *testing.T) {
	var d probe.Draws
	b := laid(api.Slip{Kind: 200, Data: filled(api.MaxSlip)})
	all := 8 * len(b)
	var places []int
	for i := range 80 {
		places = append(places, i, all/2+i, all-1-i)
	}
	for range 100 {
		places = append(places, int(d.Next()%uint64(all)))
	}
	for _, from := range places {
		refusesTurned(t, b, from, 1)
		refusesTurned(t, b, from, uint32(d.Next())|1)
		refusesTurned(t, b, from, math.MaxUint32)
	}
	takes(t, b, api.Slip{Kind: 200, Data: filled(api.MaxSlip)}, slip.Size(api.MaxSlip))
}

// P9.6: among others, what stands ahead is told, and it is refused whatever stands behind.
func TestTurnedAmongOthers(t *testing.T) {
	b, all := row(several()...)
	var d probe.Draws
	for i, x := range all {
		size := slip.Size(len(x.s.Data))
		for from := range 8 * size {
			wrong := bytes.Clone(b)
			if turn(wrong[x.at:x.at+size], from, uint32(d.Next())) {
				tells(t, "turned", wrong, all[:i], x.at, api.ErrSum)
			}
		}
	}
}
