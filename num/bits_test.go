package num_test

import (
	"bytes"
	"math"
	"testing"

	"chancery/api"
	"chancery/num"
	"chancery/probe"
)

// P2.3, P2.6
func TestBool(t *testing.T) {
	if b := num.Bool(true); !bytes.Equal(b, []byte{255}) {
		t.Errorf("Bool(true): %x", b)
	}
	if b := num.Bool(false); !bytes.Equal(b, []byte{0}) {
		t.Errorf("Bool(false): %x", b)
	}
	for x := range 256 {
		v, e := num.ToBool([]byte{byte(x)})
		want := api.ErrForm
		if x == 0 || x == 255 {
			want = api.OK
		}
		if e != want || v != (x == 255) {
			t.Errorf("ToBool(%x): %t, error %d", x, v, e)
		}
	}
	for _, s := range []string{"", "0000", "00ff", "ff00", "ffff", "ffffff", "000000"} {
		if v, e := num.ToBool(probe.Raw(s)); v || e != api.ErrForm {
			t.Errorf("ToBool(%s): %t, error %d", s, v, e)
		}
	}
	if v, e := num.ToBool(nil); v || e != api.ErrForm {
		t.Errorf("ToBool(nil): %t, error %d", v, e)
	}
}

// P2.4, P2.6
func TestBits(t *testing.T) {
	for _, c := range []struct {
		bits   string
		unused int
	}{
		{"", 0}, {"00", 0}, {"ff", 0}, {"01", 0}, {"00", 7}, {"80", 7}, {"a0", 5}, {"fe", 1}, {"fc", 2}, {"f0", 4}, {"c0", 6},
		{"0000", 0}, {"0000", 7}, {"ff00", 7}, {"ff80", 7}, {"ffff", 0}, {"01fe", 1},
		{"ffffffffffffffffffffffffffffffffff80", 7},
	} {
		content := append([]byte{byte(c.unused)}, probe.Raw(c.bits)...)
		if b, e := num.Bits(probe.Raw(c.bits), c.unused); !bytes.Equal(b, content) || e != api.OK {
			t.Errorf("Bits(%s, %d): %x, error %d", c.bits, c.unused, b, e)
		}
		if b, n, e := num.ToBits(content); !bytes.Equal(b, probe.Raw(c.bits)) || n != c.unused || e != api.OK {
			t.Errorf("ToBits(%x): %x, %d, error %d", content, b, n, e)
		}
	}
	if b, e := num.Bits(nil, 0); !bytes.Equal(b, []byte{0}) || e != api.OK {
		t.Errorf("Bits(nil, 0): %x, error %d", b, e)
	}
}

// P2.4: unused bits that are none, or that are not 0.
func TestBitsErrors(t *testing.T) {
	for _, bits := range [][]byte{nil, {}, {0}, {255}, {0, 0}} {
		for _, unused := range []int{8, 9, -1, -8, 16, 255, 256, 257, 1 << 32, math.MaxInt, math.MinInt} {
			if b, e := num.Bits(bits, unused); b != nil || e != api.ErrArg {
				t.Errorf("Bits(%x, %d): %x, error %d", bits, unused, b, e)
			}
		}
	}
	for unused := 1; unused <= 7; unused++ {
		if b, e := num.Bits(nil, unused); b != nil || e != api.ErrArg {
			t.Errorf("Bits(none, %d): %x, error %d", unused, b, e)
		}
		if b, n, e := num.ToBits([]byte{byte(unused)}); b != nil || n != 0 || e != api.ErrForm {
			t.Errorf("ToBits(%x): %x, %d, error %d", unused, b, n, e)
		}
	}
	for _, c := range []struct {
		bits   string
		unused int
	}{
		{"a1", 5}, {"b0", 5}, {"01", 1}, {"40", 7}, {"ff", 1}, {"0001", 1}, {"8040", 7}, {"00ff", 7},
	} {
		if b, e := num.Bits(probe.Raw(c.bits), c.unused); b != nil || e != api.ErrArg {
			t.Errorf("Bits(%s, %d): %x, error %d", c.bits, c.unused, b, e)
		}
	}
	for _, s := range []string{"", "0800", "ff", "ff00", "80", "8000", "0900", "080000", "0501", "07ff", "0140ff", "070040"} {
		if b, n, e := num.ToBits(probe.Raw(s)); b != nil || n != 0 || e != api.ErrForm {
			t.Errorf("ToBits(%s): %x, %d, error %d", s, b, n, e)
		}
	}
	if b, n, e := num.ToBits(nil); b != nil || n != 0 || e != api.ErrForm {
		t.Errorf("ToBits(nil): %x, %d, error %d", b, n, e)
	}
}

// P2.4, P2.6: of one byte and of two, with each number of unused bits: just if these are 0, and both ways alike.
func TestBitsOneForm(t *testing.T) {
	for unused := range 256 {
		for last := range 256 {
			for _, bits := range [][]byte{{byte(last)}, {0xff, byte(last)}} {
				good := unused <= 7 && last%(1<<min(unused, 8)) == 0
				content := append([]byte{byte(unused)}, bits...)
				b, e := num.Bits(bits, unused)
				back, n, f := num.ToBits(content)
				if !good {
					if b != nil || e != api.ErrArg || back != nil || n != 0 || f != api.ErrForm {
						t.Errorf("%x: %x, error %d; %x, %d, error %d", content, b, e, back, n, f)
					}
					continue
				}
				if !bytes.Equal(b, content) || e != api.OK || !bytes.Equal(back, bits) || n != unused || f != api.OK {
					t.Errorf("%x: %x, error %d; %x, %d, error %d", content, b, e, back, n, f)
				}
			}
		}
	}
}

// P2.5
func TestFlags(t *testing.T) {
	for _, c := range []struct {
		set     uint16
		content string
	}{
		{0, "00"}, {1 << 0, "0780"}, {1 << 1, "0640"}, {1 << 5, "0204"}, {1<<5 | 1<<6, "0106"}, {1 << 6, "0102"}, {1 << 7, "0001"},
		{1 << 8, "070080"}, {1<<0 | 1<<8, "078080"}, {1<<7 | 1<<8, "070180"}, {1 << 9, "060040"}, {1 << 14, "010002"}, {1 << 15, "000001"},
		{1<<0 | 1<<15, "008001"}, {0x00ff, "00ff"}, {0x01ff, "07ff80"}, {0x7fff, "01fffe"}, {0xffff, "00ffff"}, {0xff00, "0000ff"},
	} {
		if b := num.Flags(c.set); !bytes.Equal(b, probe.Raw(c.content)) {
			t.Errorf("Flags(%016b): %x", c.set, b)
		}
		if set, e := num.ToFlags(probe.Raw(c.content)); set != c.set || e != api.OK {
			t.Errorf("ToFlags(%s): %016b, error %d", c.content, set, e)
		}
	}
}

// P2.5: what is no set's content is told ahead of what has too many bits.
func TestToFlagsErrors(t *testing.T) {
	for _, s := range []string{
		"", "01", "07", "08", "0800", "0781", // no BIT STRING's contents
		"0700", "0000", "0680", "0080", "0540", "070000", "078000", "06ff80", "00fffe", "000100", // the last bit is 0
		"00010100", "0701ff00", "07ffff00", "06010180", "0701ff81", "08010101", "00000000000000", // and more than 16 bits
	} {
		if set, e := num.ToFlags(probe.Raw(s)); set != 0 || e != api.ErrForm {
			t.Errorf("ToFlags(%s): %x, error %d", s, set, e)
		}
	}
	if set, e := num.ToFlags(nil); set != 0 || e != api.ErrForm {
		t.Errorf("ToFlags(nil): %x, error %d", set, e)
	}
	for _, s := range []string{"00010101", "07000080", "07ffff80", "06ffff40", "00000001", "0000000001", "07000000000000000080"} {
		if set, e := num.ToFlags(probe.Raw(s)); set != 0 || e != api.ErrBig {
			t.Errorf("ToFlags(%s): %x, error %d", s, set, e)
		}
	}
}

// P2.5, P2.6: every set, bit by bit as the words say it, both ways.
func TestFlagsAll(t *testing.T) {
	for set := range 1 << 16 {
		b := num.Flags(uint16(set))
		bits, unused, e := num.ToBits(b)
		if e != api.OK {
			t.Fatalf("Flags(%x) is no BIT STRING's content: %x", set, b)
		}
		n := 8*len(bits) - unused
		if set>>n != 0 || n > 0 && set>>(n-1) == 0 {
			t.Fatalf("Flags(%x): %x has %d bits", set, b, n)
		}
		for i := range n {
			if set>>i&1 != int(bits[i/8]>>(7-i%8)&1) {
				t.Fatalf("Flags(%x): %x, bit %d", set, b, i)
			}
		}
		if back, e := num.ToFlags(b); int(back) != set || e != api.OK {
			t.Fatalf("ToFlags(%x): %x, error %d", b, back, e)
		}
	}
}

// P2.5, P2.6: of all strings that could be a set's content, just those that one has are read.
func TestFlagsOneForm(t *testing.T) {
	read := 0
	look := func(b []byte) {
		set, e := num.ToFlags(b)
		if e == api.OK {
			read++
			if !bytes.Equal(num.Flags(set), b) {
				t.Errorf("ToFlags(%x): %x, which is written as %x", b, set, num.Flags(set))
			}
		} else if set != 0 || e != api.ErrForm {
			t.Errorf("ToFlags(%x): %x, error %d", b, set, e)
		}
	}
	for unused := range 10 {
		look([]byte{byte(unused)})
		for x := range 256 {
			look([]byte{byte(unused), byte(x)})
			for y := range 256 {
				look([]byte{byte(unused), byte(x), byte(y)})
			}
		}
	}
	if read != 1<<16 {
		t.Errorf("%d contents are read", read)
	}
}
