package nat_test

import (
	"bytes"
	"math/big"
	"slices"
	"testing"

	"chancery/api"
	"chancery/nat"
	"chancery/probe"
)

// reads fails unless bytes are read as a number, and this is written as the shortest ones.
func reads(t *testing.T, b []byte, want api.Nat, shortest []byte) {
	t.Helper()
	if a, e := nat.From(b); e != api.OK || !slices.Equal(a, want) {
		t.Fatalf("From(%x): %x, error %d; want %x", b, a, e, want)
	}
	for _, pad := range []int{0, 1, 2, 64, 100} {
		if back, e := nat.Bytes(padded(want, pad)); e != api.OK || !bytes.Equal(back, shortest) {
			t.Fatalf("Bytes(%x and %d limbs 0): %x, error %d; want %x", want, pad, back, e, shortest)
		}
	}
}

// P6.1
func TestFromAndBytes(t *testing.T) {
	for _, c := range []struct {
		b        string
		want     api.Nat
		shortest string
	}{
		{"", nil, ""},
		{"00", nil, ""},
		{"0000000000000000000000", nil, ""},
		{"05", api.Nat{5}, "05"},
		{"000005", api.Nat{5}, "05"},
		{"80", api.Nat{128}, "80"},
		{"ff", api.Nat{255}, "ff"},
		{"0100", api.Nat{256}, "0100"},
		{"0102030405060708", api.Nat{0x0102030405060708}, "0102030405060708"},
		{"ffffffffffffffff", api.Nat{most}, "ffffffffffffffff"},
		{"000000000000000000ffffffffffffffff", api.Nat{most}, "ffffffffffffffff"},
		{"010000000000000000", api.Nat{0, 1}, "010000000000000000"},
		{"090102030405060708", api.Nat{0x0102030405060708, 9}, "090102030405060708"},
		{"00ff000000000000000001", api.Nat{1, 0xff00}, "ff000000000000000001"},
		{"1112131415161718010203040506070821222324252627ff", api.Nat{0x21222324252627ff, 0x0102030405060708, 0x1112131415161718}, "1112131415161718010203040506070821222324252627ff"},
		{"01 0000000000000000 0000000000000000", api.Nat{0, 0, 1}, "0100000000000000000000000000000000"},
	} {
		reads(t, probe.Raw(c.b), c.want, probe.Raw(c.shortest))
	}
	reads(t, nil, nil, nil)
	reads(t, []byte{}, nil, nil)
	for _, zero := range zeros() {
		if b, e := nat.Bytes(zero); len(b) != 0 || e != api.OK {
			t.Errorf("Bytes of 0 in %d limbs: %x, error %d", len(zero), b, e)
		}
	}
}

// P6.1: of each length up to the limit, with bytes 0 ahead or not, by the library.
func TestFromEachLength(t *testing.T) {
	var d probe.Draws
	for n := 1; n <= 512; n++ {
		for _, first := range []byte{1, 0x7f, 0x80, 0xff} {
			b := make([]byte, n)
			for i := range b {
				b[i] = byte(d.Next())
			}
			b[0] = first
			want := limbs(new(big.Int).SetBytes(b))
			for _, ahead := range []int{0, 1, 7, 8, 9, 600} {
				reads(t, append(make([]byte, ahead), b...), want, b)
			}
		}
	}
}

// P6.1: of MaxLimbs limbs, and of more bytes, just those count that are not 0 ahead.
func TestFromLimit(t *testing.T) {
	if api.MaxLimbs != 64 {
		t.Fatal(api.MaxLimbs)
	}
	full := bytes.Repeat([]byte{255}, 512)
	first := append([]byte{1}, make([]byte, 511)...)
	for _, ahead := range []int{0, 1, 8, 512, 1 << 20} {
		zero := make([]byte, ahead)
		reads(t, append(zero, full...), row(most, 64), full)
		reads(t, append(zero, first...), append(row(0, 63), 1<<56), first)
		reads(t, zero, nil, nil)
		for _, head := range [][]byte{{1}, {255}, {1, 0}, {1, 0, 0, 0, 0, 0, 0, 0}, bytes.Repeat([]byte{7}, 600)} {
			for _, tail := range [][]byte{full, first, make([]byte, 512)} {
				b := append(append(bytes.Clone(zero), head...), tail...)
				if a, e := nat.From(b); len(a) != 0 || e != api.ErrLong {
					t.Errorf("From of %d bytes 0 and %d others: %x, error %d", ahead, len(head)+len(tail), a, e)
				}
			}
		}
	}
}

// P6.1
func TestBytesLong(t *testing.T) {
	for _, long := range longs() {
		if b, e := nat.Bytes(long); len(b) != 0 || e != api.ErrLong {
			t.Errorf("Bytes(%x): %x, error %d", long, b, e)
		}
	}
}
