package num_test

import (
	"bytes"
	"testing"

	"chancery/api"
	"chancery/num"
	"chancery/probe"
)

// P2: what is handed in is neither changed nor shared, spare room too; nor do two answers share.
func TestMemory(t *testing.T) {
	calls := []struct {
		name  string
		given string
		call  func(b []byte) ([]byte, api.Errno)
		want  string
	}{
		{"Nat", "0102", func(b []byte) ([]byte, api.Errno) { return num.Nat(b), api.OK }, "0102"},
		{"Nat", "8002", func(b []byte) ([]byte, api.Errno) { return num.Nat(b), api.OK }, "008002"},
		{"Nat", "000005", func(b []byte) ([]byte, api.Errno) { return num.Nat(b), api.OK }, "05"},
		{"Nat", "", func(b []byte) ([]byte, api.Errno) { return num.Nat(b), api.OK }, "00"},
		{"ToNat", "0102", num.ToNat, "0102"},
		{"ToNat", "0080", num.ToNat, "80"},
		{"ToNat", "00", num.ToNat, ""},
		{"Bits", "0180", func(b []byte) ([]byte, api.Errno) { return num.Bits(b, 7) }, "070180"},
		{"Bits", "", func(b []byte) ([]byte, api.Errno) { return num.Bits(b, 0) }, "00"},
		{"ToBits", "070180", func(b []byte) ([]byte, api.Errno) { out, _, e := num.ToBits(b); return out, e }, "0180"},
		{"ToBits", "00", func(b []byte) ([]byte, api.Errno) { out, _, e := num.ToBits(b); return out, e }, ""},
		{"Int", "", func([]byte) ([]byte, api.Errno) { return num.Int(258), api.OK }, "0102"},
		{"Bool", "", func([]byte) ([]byte, api.Errno) { return num.Bool(true), api.OK }, "ff"},
		{"Bool", "", func([]byte) ([]byte, api.Errno) { return num.Bool(false), api.OK }, "00"},
		{"Flags", "", func([]byte) ([]byte, api.Errno) { return num.Flags(0x8001), api.OK }, "008001"},
	}
	for _, c := range calls {
		b, whole := probe.Roomy(probe.Raw(c.given))
		was := bytes.Clone(whole)
		one, e1 := c.call(b)
		two, e2 := c.call(b)
		if e1 != api.OK || e2 != api.OK || !bytes.Equal(one, probe.Raw(c.want)) {
			t.Errorf("%s(%s): %x, errors %d and %d", c.name, c.given, one, e1, e2)
		}
		probe.Scribble(one, 0x77)
		if !bytes.Equal(whole, was) {
			t.Errorf("%s(%s): the argument is changed", c.name, c.given)
		}
		probe.Scribble(whole, 0x55)
		if !bytes.Equal(two, probe.Raw(c.want)) {
			t.Errorf("%s(%s): the answer shares memory: %x", c.name, c.given, two)
		}
		three, _ := c.call(probe.Raw(c.given))
		if !bytes.Equal(three, probe.Raw(c.want)) {
			t.Errorf("%s(%s): an earlier answer is kept: %x", c.name, c.given, three)
		}
	}
}

// P2: what reads numbers leaves the bytes as they are, and does not look behind their end.
func TestReadingLeaves(t *testing.T) {
	b, whole := probe.Roomy(probe.Raw("0080ff"))
	was := bytes.Clone(whole)
	if n, e := num.ToInt(b); n != 0x80ff || e != api.OK {
		t.Errorf("ToInt: %d, error %d", n, e)
	}
	if n, e := num.ToInt(b[:2]); n != 0x80 || e != api.OK {
		t.Errorf("ToInt: %d, error %d", n, e)
	}
	if v, e := num.ToBool(b[:1]); v || e != api.OK {
		t.Errorf("ToBool: %t, error %d", v, e)
	}
	if set, e := num.ToFlags(b); set != 0xff01 || e != api.OK {
		t.Errorf("ToFlags: %x, error %d", set, e)
	}
	if set, e := num.ToFlags(b[:1]); set != 0 || e != api.OK {
		t.Errorf("ToFlags: %x, error %d", set, e)
	}
	for _, call := range []func(b []byte) api.Errno{
		func(b []byte) api.Errno { _, e := num.ToInt(b); return e },
		func(b []byte) api.Errno { _, e := num.ToNat(b); return e },
		func(b []byte) api.Errno { _, e := num.ToBool(b); return e },
		func(b []byte) api.Errno { _, _, e := num.ToBits(b); return e },
		func(b []byte) api.Errno { _, e := num.ToFlags(b); return e },
	} {
		if e := call(b[:0]); e != api.ErrForm {
			t.Errorf("of no bytes: error %d", e)
		}
	}
	if !bytes.Equal(whole, was) {
		t.Error("the bytes are changed")
	}
}
