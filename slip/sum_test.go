package slip_test

import (
	"bytes"
	"hash/crc32"
	"slices"
	"testing"

	"chancery/probe"
	"chancery/slip"
)

// bitSum is the sum as the chapter tells it, bit by bit.
func bitSum(b []byte) uint32 {
	register := ^uint32(0)
	for _, x := range b {
		register ^= uint32(x)
		for range 8 {
			off := register & 1
			register >>= 1
			if off == 1 {
				register ^= 0xedb88320
			}
		}
	}
	return ^register
}

// P9.1: written out.
func TestSum(t *testing.T) {
	for text, want := range map[string]uint32{
		"": 0, "\x00": 0xd202ef8d, "\xff": 0xff000000, "a": 0xe8b7be43, "abc": 0x352441c2, "123456789": 0xcbf43926,
		"\x00\x00\x00": 0xff41d912, "\x00\x00\x00\x00": 0x2144df1c, "\xff\xff\xff\xff": 0xffffffff,
		"The quick brown fox jumps over the lazy dog": 0x414fa339,
	} {
		if got := slip.Sum([]byte(text)); got != want {
			t.Errorf("Sum(%q): %x; want %x", text, got, want)
		}
	}
}

// P9.1: of no pieces, of nil ones and of empty ones, among others too.
func TestSumOfNothing(t *testing.T) {
	for _, none := range [][][]byte{nil, {}, {nil}, {{}}, {nil, {}, nil}} {
		if got := slip.Sum(none...); got != 0 {
			t.Errorf("Sum of %d pieces without bytes: %x", len(none), got)
		}
		pieces := slices.Concat(none, [][]byte{[]byte("a")}, none, [][]byte{[]byte("bc")}, none)
		if got := slip.Sum(pieces...); got != 0x352441c2 {
			t.Errorf("Sum of abc, %d pieces without bytes around: %x", len(none), got)
		}
	}
}

// P9.1: each byte, alone, behind each other one and ahead of it.
func TestSumOfEachPair(t *testing.T) {
	for x := range 256 {
		if b := []byte{byte(x)}; slip.Sum(b) != bitSum(b) {
			t.Errorf("Sum(%x): %x; want %x", b, slip.Sum(b), bitSum(b))
		}
		for y := range 256 {
			if b := []byte{byte(x), byte(y)}; slip.Sum(b) != bitSum(b) || slip.Sum(b[:1], b[1:]) != bitSum(b) {
				t.Errorf("Sum(%x): %x; want %x", b, slip.Sum(b), bitSum(b))
			}
		}
	}
}

// P9.1: of all lengths up to some hundreds, and of long ones.
func TestSumOfLengths(t *testing.T) {
	for n := range 700 {
		for _, b := range datas(n) {
			if got := slip.Sum(b); got != bitSum(b) || got != crc32.ChecksumIEEE(b) {
				t.Errorf("Sum of %d bytes: %x; want %x", n, got, bitSum(b))
			}
		}
	}
	for _, n := range []int{1 << 16, 1<<16 + 7, 1 << 20, 1<<24 + 1} {
		if b := filled(n); slip.Sum(b) != crc32.ChecksumIEEE(b) {
			t.Errorf("Sum of %d bytes: %x; want %x", n, slip.Sum(b), crc32.ChecksumIEEE(b))
		}
	}
}

// P9.1: of the same bytes, cut at every place, into two and into three.
func TestSumOfCuts(t *testing.T) {
	for _, n := range []int{0, 1, 2, 3, 4, 5, 17, 64} {
		b := filled(n)
		want := bitSum(b)
		for i := range n + 1 {
			if got := slip.Sum(probe.Cut(b, i)...); got != want {
				t.Errorf("%d bytes, cut at %d: %x", n, i, got)
			}
			for j := i; j <= n; j++ {
				if got := slip.Sum(probe.Cut(b, i, j)...); got != want {
					t.Errorf("%d bytes, cut at %d and %d: %x", n, i, j, got)
				}
			}
		}
	}
}

// P9.1: of many pieces, of one byte each, and of lengths that look like chance.
func TestSumOfManyPieces(t *testing.T) {
	b := filled(1000)
	if got := slip.Sum(slices.Collect(slices.Chunk(b, 1))...); got != bitSum(b) {
		t.Errorf("byte by byte: %x", got)
	}
	var d probe.Draws
	for range 300 {
		b := d.Bytes(int(d.Next() % 600))
		var at []int
		for range d.Next() % 20 {
			at = append(at, int(d.Next()%uint64(len(b)+1)))
		}
		slices.Sort(at)
		if got := slip.Sum(probe.Cut(b, at...)...); got != bitSum(b) {
			t.Errorf("%d bytes, cut at %d: %x", len(b), at, got)
		}
	}
	if slip.Sum(b, b) != bitSum(bytes.Repeat(b, 2)) || slip.Sum(b[500:], b[:500]) == bitSum(b) {
		t.Error("the pieces' order does not count")
	}
}
