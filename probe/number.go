package probe

import (
	"math"
	"slices"

	"chancery/api"
)

// Edges are limbs at which something changes.
func Edges() []uint64 {
	return []uint64{0, 1, 1<<63 - 1, 1 << 63, 1<<63 + 1, math.MaxUint64}
}

// Row is n limbs x.
func Row(x uint64, n int) api.Nat { return slices.Repeat(api.Nat{x}, n) }

// Power is the number that has a 1 at i, and else nothing.
func Power(i int) api.Nat {
	a := make(api.Nat, i/64+1)
	a[i/64] = 1 << (i % 64)
	return a
}

// Padded is a number with n limbs 0 behind it.
func Padded(a api.Nat, n int) api.Nat { return append(slices.Clone(a), make(api.Nat, n)...) }

// Zeros are the ways in which 0 may be written.
func Zeros() []api.Nat {
	return []api.Nat{nil, {}, {0}, {0, 0}, Row(0, 64), Row(0, 65), Row(0, 1000)}
}

// Longs are numbers that may not be.
func Longs() []api.Nat {
	one := append(Row(0, 64), 1)
	return []api.Nat{
		one, Row(math.MaxUint64, 65), append(Row(math.MaxUint64, 64), 1<<63), append(Row(0, 65), 1), append(Row(0, 999), 1),
		Padded(one, 1), Padded(one, 100), Row(1, 128),
	}
}

// Draws are numbers that look like chance, and are the same each time.
type Draws uint64

// Next is the next one.
func (d *Draws) Next() uint64 {
	*d += 0x9e3779b97f4a7c15
	x := uint64(*d)
	x = (x ^ x>>30) * 0xbf58476d1ce4e5b9
	x = (x ^ x>>27) * 0x94d049bb133111eb
	return x ^ x>>31
}

// Number has n limbs: most of them edges.
func (d *Draws) Number(n int) api.Nat {
	edges := Edges()
	a := make(api.Nat, n)
	for i := range a {
		if k := d.Next() % 8; k < uint64(len(edges)) {
			a[i] = edges[k]
		} else {
			a[i] = d.Next()
		}
	}
	return a
}

// Bytes are n bytes.
func (d *Draws) Bytes(n int) []byte {
	b := make([]byte, n)
	for i := range b {
		b[i] = byte(d.Next())
	}
	return b
}
