package oid_test

import (
	"bytes"
	"math/big"
	"slices"
	"testing"

	"chancery/api"
	"chancery/oid"
	"chancery/probe"
)

// faults: what is wrong with the number with which bytes begin, in the order in which it is asked.
var faults = []struct {
	b    string
	want api.Errno
}{
	{"80", api.ErrPad},
	{"80 00", api.ErrPad},
	{"80 01", api.ErrPad},
	{"80 80 01", api.ErrPad},
	{"80 ff ff ff ff ff", api.ErrPad}, // and too great, and not all there

	{"81", api.ErrShort},
	{"ff", api.ErrShort},
	{"81 80", api.ErrShort}, // a byte 128 that is not the first one says something
	{"ff ff", api.ErrShort},
	{"ff ff ff", api.ErrShort},
	{"88 80 80 80", api.ErrShort}, // too great it would be with the next byte alone
	{"ff ff ff ff", api.ErrShort},
	{"87 ff ff ff", api.ErrShort},
	{"87 ff ff ff ff", api.ErrShort}, // MaxArc, and one more byte due

	{"88 80 80 80 00", api.ErrArc},
	{"88 80 80 80 80", api.ErrArc}, // and not all there
	{"88 80 80 80 01", api.ErrArc},
	{"8f ff ff ff 7f", api.ErrArc}, // 2^32 - 1
	{"90 80 80 80 00", api.ErrArc}, // 2^32
	{"ff ff ff ff 7f", api.ErrArc},
	{"ff ff ff ff ff", api.ErrArc},
	{"81 80 80 80 80 00", api.ErrArc},
	{"87 ff ff ff ff 00", api.ErrArc},
	{"81 80 80 80 80 80 80 80 80 00", api.ErrArc},       // 2^63
	{"82 80 80 80 80 80 80 80 80 00", api.ErrArc},       // 2^64
	{"82 80 80 80 80 80 80 80 80 05", api.ErrArc},       // 2^64 + 5
	{"c0 80 80 80 80 80 80 80 80 80 80 05", api.ErrArc}, // many bits further up
}

// P3.2: what is wrong in the first number, in a later one, and with what stands behind.
func TestDecodeFaults(t *testing.T) {
	if l, e := oid.Decode(nil); l != nil || e != api.ErrShort {
		t.Errorf("Decode(nil): %d, error %d", l, e)
	}
	if l, e := oid.Decode([]byte{}); l != nil || e != api.ErrShort {
		t.Errorf("Decode(none): %d, error %d", l, e)
	}
	for _, f := range faults {
		for _, ahead := range []string{"", "55", "55 04", "88 37 03", "87 ff ff ff 7f", "2a 86 48 ce 3d"} {
			b := probe.Raw(ahead + f.b)
			if l, e := oid.Decode(b); l != nil || e != f.want {
				t.Errorf("Decode(%x): %d, error %d; want error %d", b, l, e, f.want)
			}
			if f.want == api.ErrShort {
				continue
			}
			// From left to right: nothing that stands behind changes that.
			for _, behind := range []string{"00", "80", "81", "ff ff ff ff ff", "01010101010101010101010101010101010101010101"} {
				b := probe.Raw(ahead + f.b + behind)
				if l, e := oid.Decode(b); l != nil || e != f.want {
					t.Errorf("Decode(%x): %d, error %d; want error %d", b, l, e, f.want)
				}
			}
		}
	}
}

// P3.2: one number too many is told ahead of all that is wrong in it, and behind all that is wrong ahead of it.
func TestDecodeTooMany(t *testing.T) {
	for _, first := range []string{"2a", "00", "88 37"} {
		full := append(probe.Raw(first), bytes.Repeat([]byte{1}, api.MaxArcs-2)...)
		if l, e := oid.Decode(full); len(l) != api.MaxArcs || e != api.OK {
			t.Errorf("Decode(%x): %d, error %d", full, l, e)
		}
		for _, behind := range []string{"00", "01", "7f", "80", "80 01", "81", "ff", "81 00", "88 80 80 80 00", "ff ff ff ff ff", "01 01 01", "01 80"} {
			b := slices.Concat(full, probe.Raw(behind))
			if l, e := oid.Decode(b); l != nil || e != api.ErrArcs {
				t.Errorf("Decode(%x): %d, error %d", b, l, e)
			}
		}
		for _, f := range faults {
			b := slices.Concat(full[:len(full)-1], probe.Raw(f.b)) // the last one that may be is wrong
			if l, e := oid.Decode(b); l != nil || e != f.want {
				t.Errorf("Decode(%x): %d, error %d; want error %d", b, l, e, f.want)
			}
		}
	}
	long := append(bytes.Repeat(probe.Raw("87 ff ff ff 7f"), api.MaxArcs-1), 0)
	if l, e := oid.Decode(long[:len(long)-1]); len(l) != api.MaxArcs || e != api.OK {
		t.Errorf("numbers of five bytes: %d, error %d", l, e)
	}
	if l, e := oid.Decode(long); l != nil || e != api.ErrArcs {
		t.Errorf("one more: %d, error %d", l, e)
	}
}

// P3.2, P1: very many bytes.
func TestDecodeLong(t *testing.T) {
	for x, want := range map[byte]api.Errno{0: api.ErrArcs, 1: api.ErrArcs, 0x7f: api.ErrArcs, 0x80: api.ErrPad, 0x81: api.ErrArc, 0xff: api.ErrArc} {
		if l, e := oid.Decode(bytes.Repeat([]byte{x}, 1<<20)); l != nil || e != want {
			t.Errorf("many bytes %x: %d, error %d; want error %d", x, l, e, want)
		}
	}
}

// P3.2: the two arcs of each first number of one byte, and of some of two.
func TestFirstNumber(t *testing.T) {
	for n := range 1 << 14 {
		b := []byte{byte(n)}
		if n > 127 {
			b = []byte{byte(128 + n/128), byte(n % 128)}
		}
		want := []int{2, n - 80}
		if n < 40 {
			want = []int{0, n}
		} else if n < 80 {
			want = []int{1, n - 40}
		}
		if l, e := oid.Decode(b); !slices.Equal(l, want) || e != api.OK {
			t.Errorf("Decode(%x): %d, error %d; want %d", b, l, e, want)
		}
		if back, e := oid.Encode(want); !bytes.Equal(back, b) || e != api.OK {
			t.Errorf("Encode(%d): %x, error %d; want %x", want, back, e, b)
		}
	}
}

// told is what is read the other way: the places and numbers ahead of what is wrong, and what is wrong.
type told struct {
	places, numbers []int
	wrong           api.Errno
}

// read reads a content the other way: it is cut at the bytes below 128, and numbers are of any greatness.
func read(b []byte) told {
	var all told
	for at := 0; at < len(b); {
		n := new(big.Int)
		end := at
		for ; ; end++ {
			switch {
			case b[at] == 128:
				all.wrong = api.ErrPad
			case end == len(b):
				all.wrong = api.ErrShort
			default:
				n.Add(n.Lsh(n, 7), big.NewInt(int64(b[end])&127))
				if n.Cmp(big.NewInt(api.MaxArc)) > 0 {
					all.wrong = api.ErrArc
				}
			}
			if all.wrong != api.OK {
				return all
			}
			if b[end] < 128 {
				break
			}
		}
		all.places = append(all.places, at)
		all.numbers = append(all.numbers, int(n.Int64()))
		at = end + 1
	}
	return all
}

// P3.2, P3.5, P3.6: all short strings, of bytes at both sides of what is asked: read the other way, and written again.
func TestDecodeOneForm(t *testing.T) {
	taken := map[string]int{}
	for b := range probe.Short([]byte{0, 1, 0x27, 0x28, 0x4f, 0x50, 0x7f, 0x80, 0x81, 0x87, 0x88, 0xff}, 5) {
		want := read(b)
		places, numbers := gather(b)
		if !slices.Equal(places, want.places) || !slices.Equal(numbers, want.numbers) {
			t.Errorf("Arcs(%x): %d at %d; want %d at %d", b, numbers, places, want.numbers, want.places)
		}
		if len(b) == 0 {
			want.wrong = api.ErrShort
		}
		l, e := oid.Decode(b)
		if e != want.wrong {
			t.Errorf("Decode(%x): error %d; want error %d", b, e, want.wrong)
		}
		if e != api.OK {
			if l != nil {
				t.Errorf("Decode(%x): %d beside error %d", b, l, e)
			}
			continue
		}
		taken[joined(l)]++
		if len(l) != len(want.numbers)+1 || 40*l[0]+l[1] != want.numbers[0] || !slices.Equal(l[2:], want.numbers[1:]) {
			t.Errorf("Decode(%x): %d; want the numbers %d", b, l, want.numbers)
		}
		if back, f := oid.Encode(l); f != api.OK || !bytes.Equal(back, b) {
			t.Errorf("%x, read as %d, is written as %x, error %d", b, l, back, f)
		}
		text, f := oid.Text(l)
		if back, g := oid.Parse(text); f != api.OK || g != api.OK || !slices.Equal(back, l) {
			t.Errorf("Parse(Text(%d)): %d, errors %d and %d", l, back, f, g)
		}
	}
	for s, times := range taken {
		if times != 1 {
			t.Errorf("%s has %d contents", s, times)
		}
	}
	if len(taken) < 10000 {
		t.Errorf("only %d are taken", len(taken))
	}
}
