package num_test

import (
	"bytes"
	"math"
	"math/big"
	"testing"

	"chancery/api"
	"chancery/num"
	"chancery/probe"
)

// ints: the least and the greatest, and both sides of each place where a content gets one byte more.
var ints = []struct {
	n       int64
	content string
}{
	{0, "00"}, {1, "01"}, {-1, "ff"}, {5, "05"}, {-2, "fe"}, {100, "64"},
	{126, "7e"}, {127, "7f"}, {128, "0080"}, {129, "0081"}, {255, "00ff"}, {256, "0100"},
	{-127, "81"}, {-128, "80"}, {-129, "ff7f"}, {-130, "ff7e"}, {-256, "ff00"}, {-257, "feff"},
	{1<<15 - 1, "7fff"}, {1 << 15, "008000"}, {-1 << 15, "8000"}, {-1<<15 - 1, "ff7fff"},
	{1<<16 - 1, "00ffff"}, {1 << 16, "010000"}, {-1 << 16, "ff0000"},
	{1<<23 - 1, "7fffff"}, {1 << 23, "00800000"}, {-1 << 23, "800000"}, {-1<<23 - 1, "ff7fffff"},
	{1<<31 - 1, "7fffffff"}, {1 << 31, "0080000000"}, {-1 << 31, "80000000"}, {-1<<31 - 1, "ff7fffffff"},
	{1<<39 - 1, "7fffffffff"}, {1 << 39, "008000000000"}, {-1 << 39, "8000000000"}, {-1<<39 - 1, "ff7fffffffff"},
	{1<<47 - 1, "7fffffffffff"}, {1 << 47, "00800000000000"}, {-1 << 47, "800000000000"}, {-1<<47 - 1, "ff7fffffffffff"},
	{1<<55 - 1, "7fffffffffffff"}, {1 << 55, "0080000000000000"}, {-1 << 55, "80000000000000"}, {-1<<55 - 1, "ff7fffffffffffff"},
	{math.MaxInt64, "7fffffffffffffff"}, {math.MaxInt64 - 1, "7ffffffffffffffe"},
	{math.MinInt64, "8000000000000000"}, {math.MinInt64 + 1, "8000000000000001"},
	{0x0102030405060708, "0102030405060708"}, {-0x0102030405060708, "fefdfcfbfaf9f8f8"},
}

// noIntegers: without a byte, or with a first one that says nothing.
var noIntegers = []string{
	"", "0000", "0001", "007f", "ffff", "fffe", "ff80",
	"000000", "007fff", "000080", "ff8000", "ffff7f",
	"007fffffffffffff", "ff80000000000000", // eight bytes
	"000000000000000000", "007fffffffffffffff", "ff8000000000000000", "ffffffffffffffffff", // nine
	"00000000000000000000000000000000000080",
}

// P2.1
func TestInt(t *testing.T) {
	for _, c := range ints {
		if b := num.Int(c.n); !bytes.Equal(b, probe.Raw(c.content)) {
			t.Errorf("Int(%d): %x", c.n, b)
		}
		if n, e := num.ToInt(probe.Raw(c.content)); n != c.n || e != api.OK {
			t.Errorf("ToInt(%s): %d, error %d", c.content, n, e)
		}
	}
}

// P2.1: what is no integer's content is told ahead of what has too many bytes.
func TestToIntErrors(t *testing.T) {
	for _, s := range noIntegers {
		if n, e := num.ToInt(probe.Raw(s)); n != 0 || e != api.ErrForm {
			t.Errorf("ToInt(%s): %d, error %d", s, n, e)
		}
	}
	if n, e := num.ToInt(nil); n != 0 || e != api.ErrForm {
		t.Errorf("ToInt(nil): %d, error %d", n, e)
	}
	for _, s := range []string{
		"010000000000000000", "008000000000000000", "00ffffffffffffffff", "ff7fffffffffffffff", "800000000000000000",
		"7fffffffffffffffff", "ff0000000000000000", "01020304050607080910", "0080000000000000000000000000000000000000",
	} {
		if n, e := num.ToInt(probe.Raw(s)); n != 0 || e != api.ErrBig {
			t.Errorf("ToInt(%s): %d, error %d", s, n, e)
		}
	}
	if n, e := num.ToInt(append([]byte{1}, make([]byte, 1<<20)...)); n != 0 || e != api.ErrBig {
		t.Errorf("ToInt of many bytes: %d, error %d", n, e)
	}
}

// P2.1, P2.6: the fewest bytes that hold the number, both ways, near every power of 2.
func TestIntNearPowers(t *testing.T) {
	for shift := range 64 {
		for d := int64(-3); d <= 3; d++ {
			for _, n := range []int64{1<<shift + d, -(1 << shift) + d} {
				b := num.Int(n)
				if !bytes.Equal(b, fewest(n)) {
					t.Errorf("Int(%d): %x", n, b)
				}
				if m, e := num.ToInt(b); m != n || e != api.OK {
					t.Errorf("ToInt(Int(%d)): %d, error %d", n, m, e)
				}
			}
		}
	}
}

// fewest makes an integer's content another way: so many bytes that -2^(8k-1) <= n < 2^(8k-1), of n modulo 2^(8k).
func fewest(n int64) []byte {
	one := big.NewInt(1)
	x := big.NewInt(n)
	for k := uint(1); ; k++ {
		half := new(big.Int).Lsh(one, 8*k-1)
		if x.Cmp(half) < 0 && x.Cmp(new(big.Int).Neg(half)) >= 0 {
			rest := new(big.Int).Mod(x, new(big.Int).Lsh(one, 8*k))
			return rest.FillBytes(make([]byte, k))
		}
	}
}

// nats: the bytes of a natural number, without bytes 0 ahead, and its content.
var nats = []struct{ bytes, content string }{
	{"", "00"}, {"01", "01"}, {"05", "05"}, {"7f", "7f"}, {"80", "0080"}, {"81", "0081"}, {"ff", "00ff"},
	{"0100", "0100"}, {"7fff", "7fff"}, {"8000", "008000"}, {"ff80", "00ff80"}, {"ffff", "00ffff"},
	{"7fffffffffffffff", "7fffffffffffffff"}, {"8000000000000000", "008000000000000000"},
	{"ffffffffffffffff", "00ffffffffffffffff"}, {"010000000000000000", "010000000000000000"},
	{"ffffffffffffffffffffffffffffffffffffffff", "00ffffffffffffffffffffffffffffffffffffffff"},
	{"0100000000000000000000000000000000000000000000000000000000000000", "0100000000000000000000000000000000000000000000000000000000000000"},
}

// P2.2
func TestNat(t *testing.T) {
	for _, c := range nats {
		for _, ahead := range []string{"", "00", "0000", "000000000000000000"} {
			if b := num.Nat(probe.Raw(ahead + c.bytes)); !bytes.Equal(b, probe.Raw(c.content)) {
				t.Errorf("Nat(%s%s): %x", ahead, c.bytes, b)
			}
		}
		if b, e := num.ToNat(probe.Raw(c.content)); !bytes.Equal(b, probe.Raw(c.bytes)) || e != api.OK {
			t.Errorf("ToNat(%s): %x, error %d", c.content, b, e)
		}
	}
	if b := num.Nat(nil); !bytes.Equal(b, []byte{0}) {
		t.Errorf("Nat(nil): %x", b)
	}
	if b := num.Nat(make([]byte, 1<<16)); !bytes.Equal(b, []byte{0}) {
		t.Errorf("Nat of many bytes 0: %d bytes", len(b))
	}
}

// P2.2: what is no integer's content is told ahead of what is below 0.
func TestToNatErrors(t *testing.T) {
	for _, s := range noIntegers {
		if b, e := num.ToNat(probe.Raw(s)); b != nil || e != api.ErrForm {
			t.Errorf("ToNat(%s): %x, error %d", s, b, e)
		}
	}
	if b, e := num.ToNat(nil); b != nil || e != api.ErrForm {
		t.Errorf("ToNat(nil): %x, error %d", b, e)
	}
	for _, s := range []string{"80", "81", "ff", "8000", "ff7f", "ff00", "fe00", "800000000000000000", "ff7fffffffffffffffffffffffffffffffffffffff"} {
		if b, e := num.ToNat(probe.Raw(s)); b != nil || e != api.ErrSign {
			t.Errorf("ToNat(%s): %x, error %d", s, b, e)
		}
	}
}

// P2.1, P2.2, P2.6: of all short strings, those are contents of integers that a number has, and each number has one.
func TestIntegersOneForm(t *testing.T) {
	read := map[int64]int{}
	for b := range probe.Short([]byte{0, 1, 2, 0x7e, 0x7f, 0x80, 0x81, 0xfe, 0xff}, 5) {
		n, e := num.ToInt(b)
		m, f := num.ToNat(b)
		if e != api.OK {
			if e != api.ErrForm || f != api.ErrForm || n != 0 || m != nil {
				t.Errorf("%x: %d, error %d; %x, error %d", b, n, e, m, f)
			}
			continue
		}
		read[n]++
		if !bytes.Equal(b, fewest(n)) || !bytes.Equal(b, num.Int(n)) {
			t.Errorf("%x, read as %d, is written as %x", b, n, num.Int(n))
		}
		if n < 0 {
			if f != api.ErrSign || m != nil {
				t.Errorf("ToNat(%x): %x, error %d", b, m, f)
			}
			continue
		}
		if f != api.OK || !bytes.Equal(m, big.NewInt(n).Bytes()) || !bytes.Equal(num.Nat(m), b) {
			t.Errorf("ToNat(%x): %x, error %d", b, m, f)
		}
	}
	for n, times := range read {
		if times != 1 {
			t.Errorf("%d has %d contents", n, times)
		}
	}
	if len(read) < 10000 {
		t.Errorf("only %d numbers", len(read))
	}
}
