package der_test

import (
	"bytes"
	"math"
	"testing"

	"chancery/api"
	"chancery/der"
	"chancery/probe"
)

// put is Put behind no bytes, of what must be an element.
func put(t *testing.T, tag int, content ...[]byte) []byte {
	t.Helper()
	b, e := der.Put(nil, tag, content...)
	if e != api.OK {
		t.Fatalf("Put(none, %d): error %d", tag, e)
	}
	return b
}

func same(x, y api.Element) bool {
	return x.Tag == y.Tag && bytes.Equal(x.Content, y.Content)
}

func zero(x api.Element) bool { return x.Tag == 0 && x.Content == nil }

// filled is n bytes that differ from their neighbours, so that a shift is seen.
func filled(n int) []byte {
	b := make([]byte, n)
	for i := range b {
		b[i] = byte(i*7 + i>>8)
	}
	return b
}

// heads: what stands ahead of a content of so many bytes, behind the tag: the edges of each form of a length.
var heads = []struct {
	n    int
	head string
}{
	{0, "00"}, {1, "01"}, {126, "7e"}, {127, "7f"},
	{128, "8180"}, {129, "8181"}, {254, "81fe"}, {255, "81ff"},
	{256, "820100"}, {257, "820101"}, {65534, "82fffe"}, {65535, "82ffff"},
	{65536, "83010000"}, {65537, "83010001"}, {api.MaxContent - 1, "83fffffe"}, {api.MaxContent, "83ffffff"},
}

// noTags: the lowest five bits are all ones, or they are beyond a byte.
var noTags = []int{31, 63, 95, 127, 159, 191, 223, 255, 256, 257, 260, 1 << 16, 1<<32 + 4, math.MaxInt, -1, -2, -252, math.MinInt}

// P1.1
func TestPut(t *testing.T) {
	for _, c := range []struct {
		b       string
		tag     int
		content []string
		want    string
	}{
		{"", 4, []string{"0102", "03"}, "0403010203"},
		{"09", 2, []string{""}, "090200"},
		{"09", 2, nil, "090200"},
		{"", 0, nil, "0000"},
		{"", 30, []string{"ff"}, "1e01ff"},
		{"", 254, []string{"", "01", "", "02"}, "fe020102"},
		{"040107", 0x30, []string{"0500", "0500"}, "040107300405000500"},
		{"ff1f", 4, []string{"00"}, "ff1f040100"}, // what stands ahead need not be elements
	} {
		var l [][]byte
		for _, s := range c.content {
			l = append(l, probe.Raw(s))
		}
		if b, e := der.Put(probe.Raw(c.b), c.tag, l...); e != api.OK || !bytes.Equal(b, probe.Raw(c.want)) {
			t.Errorf("Put(%s, %d, %v): %x, error %d; want %s", c.b, c.tag, c.content, b, e, c.want)
		}
	}
}

// P1.1: the length in its one form, at the edges of each, in one piece and in two.
func TestPutLengths(t *testing.T) {
	for _, h := range heads {
		content := filled(h.n)
		want := append(probe.Raw("aa04"+h.head), content...)
		cut := h.n / 3
		one, e1 := der.Put([]byte{0xaa}, 4, content)
		two, e2 := der.Put([]byte{0xaa}, 4, content[:cut], content[cut:])
		if e1 != api.OK || e2 != api.OK || !bytes.Equal(one, want) || !bytes.Equal(two, want) {
			t.Errorf("%d bytes: errors %d and %d, or not the bytes that are due", h.n, e1, e2)
		}
	}
}

// P1.1: which numbers are tags.
func TestPutTags(t *testing.T) {
	for tag := range 256 {
		b, e := der.Put(nil, tag)
		if tag%32 == 31 {
			if e != api.ErrArg || b != nil {
				t.Errorf("tag %d: %x, error %d", tag, b, e)
			}
		} else if e != api.OK || !bytes.Equal(b, []byte{byte(tag), 0}) {
			t.Errorf("tag %d: %x, error %d", tag, b, e)
		}
	}
	for _, tag := range noTags {
		if b, e := der.Put([]byte{1, 2}, tag, []byte{3}); e != api.ErrArg || b != nil {
			t.Errorf("tag %d: %x, error %d", tag, b, e)
		}
	}
}

// P1.1: one byte more than MaxContent, however it is cut; ErrArg is asked ahead of ErrLong.
func TestPutTooLong(t *testing.T) {
	big := make([]byte, api.MaxContent+1)
	many := make([][]byte, 1000)
	for i := range many {
		many[i] = big
	}
	for what, l := range map[string][][]byte{
		"one piece":        {big},
		"a byte behind":    {big[:api.MaxContent], {1}},
		"a byte ahead":     {{1}, big[:api.MaxContent]},
		"halves":           {big[:1<<23], big[:1<<23]},
		"none in between":  {big[:api.MaxContent], nil, {}, {1}},
		"very many pieces": many,
	} {
		if b, e := der.Put([]byte{9}, 4, l...); e != api.ErrLong || b != nil {
			t.Errorf("%s: %d bytes, error %d", what, len(b), e)
		}
		for _, tag := range []int{31, 256, -1} {
			if b, e := der.Put([]byte{9}, tag, l...); e != api.ErrArg || b != nil {
				t.Errorf("%s, tag %d: %d bytes, error %d", what, tag, len(b), e)
			}
		}
	}
	if b, e := der.Put(nil, 4, big[:api.MaxContent], nil, []byte{}); e != api.OK || len(b) != api.MaxContent+5 {
		t.Errorf("MaxContent: %d bytes, error %d", len(b), e)
	}
	if b, e := der.Put(big, 4, []byte{7}); e != api.OK || len(b) != len(big)+3 {
		t.Errorf("what stands ahead counted: %d bytes, error %d", len(b), e)
	}
}

// faults: what Take answers of wrong bytes. Where several errors apply, the first of P1.2's order is due.
var faults = []struct {
	b    string
	want api.Errno
}{
	{"", api.ErrShort},
	{"1f", api.ErrTag}, // ahead of: there is no second one
	{"1f00", api.ErrTag},
	{"3f 80", api.ErrTag}, // ahead of what the length is
	{"5f 00", api.ErrTag},
	{"7f 01 00", api.ErrTag},
	{"9f 05", api.ErrTag},
	{"bf 00", api.ErrTag},
	{"df 00", api.ErrTag},
	{"ff 00", api.ErrTag},
	{"00", api.ErrShort},
	{"04", api.ErrShort},
	{"fe", api.ErrShort},
	{"04 80", api.ErrLength},
	{"04 80 00 00", api.ErrLength},
	{"30 80 05 00 00 00", api.ErrLength},
	{"04 84", api.ErrLength}, // ahead of: its bytes are not there
	{"04 84 01 00 00 00", api.ErrLength},
	{"04 84 00 00 00 80", api.ErrLength},
	{"04 85 01 00 00 00 00", api.ErrLength},
	{"04 ff", api.ErrLength},
	{"04 81", api.ErrShort},
	{"04 82", api.ErrShort},
	{"04 83", api.ErrShort},
	{"04 81 00", api.ErrLength},
	{"04 82 00", api.ErrLength}, // ahead of: there are fewer than k
	{"04 83 00", api.ErrLength},
	{"04 83 00 01", api.ErrLength},
	{"04 82 00 80", api.ErrLength},
	{"04 82 00 ff", api.ErrLength},
	{"04 83 00 01 00", api.ErrLength},
	{"04 83 00 ff ff", api.ErrLength},
	{"04 82 01", api.ErrShort},
	{"04 82 7f", api.ErrShort},
	{"04 83 01", api.ErrShort},
	{"04 83 01 00", api.ErrShort},
	{"04 81 01", api.ErrLength},
	{"04 81 01 07", api.ErrLength},
	{"04 81 7f", api.ErrLength}, // ahead of: the content is not all there
	{"04 81 80", api.ErrShort},
	{"04 81 ff 00", api.ErrShort},
	{"04 82 01 00 00", api.ErrShort},
	{"04 83 01 00 00 00", api.ErrShort},
	{"04 83 ff ff ff 00", api.ErrShort},
	{"04 01", api.ErrShort},
	{"04 02 07", api.ErrShort},
	{"04 7f 00", api.ErrShort},
}

// P1.2
func TestTake(t *testing.T) {
	for _, c := range []struct {
		b       string
		tag     int
		content string
		n       int
	}{
		{"04 01 07 99", 4, "07", 3},
		{"04 01 07", 4, "07", 3},
		{"00 00", 0, "", 2},
		{"00 00 00", 0, "", 2},
		{"1e 02 1f 1f 1f", 30, "1f1f", 4},
		{"fe 00 80", 254, "", 2},
		{"30 03 02 01 05 05 00", 0x30, "020105", 5},
		{"30 01 1f", 0x30, "1f", 3}, // what a content is made of is not asked
	} {
		x, n, e := der.Take(probe.Raw(c.b))
		if e != api.OK || n != c.n || !same(x, api.Element{Tag: c.tag, Content: probe.Raw(c.content)}) {
			t.Errorf("Take(%s): %v, %d, error %d", c.b, x, n, e)
		}
	}
	for _, f := range faults {
		if x, n, e := der.Take(probe.Raw(f.b)); e != f.want || n != 0 || !zero(x) {
			t.Errorf("Take(%s): %v, %d, error %d; want error %d", f.b, x, n, e, f.want)
		}
	}
	if x, n, e := der.Take(nil); e != api.ErrShort || n != 0 || !zero(x) {
		t.Errorf("Take(nil): %v, %d, error %d", x, n, e)
	}
}

// P1.2: lengths at the edges of each form; with a byte behind, and with one too few.
func TestTakeLengths(t *testing.T) {
	for _, h := range heads {
		content := filled(h.n)
		b := append(probe.Raw("04"+h.head), content...)
		for _, behind := range [][]byte{b, append(b, 0x99)} {
			x, n, e := der.Take(behind)
			if e != api.OK || n != len(b) || !same(x, api.Element{Tag: 4, Content: content}) {
				t.Errorf("%d bytes: tag %d, %d bytes, %d in all, error %d", h.n, x.Tag, len(x.Content), n, e)
			}
		}
		if x, n, e := der.Take(b[:len(b)-1]); e != api.ErrShort || n != 0 || !zero(x) {
			t.Errorf("%d bytes, one too few: %d in all, error %d", h.n, n, e)
		}
	}
	long := append(probe.Raw("04 84 01 00 00 00"), make([]byte, api.MaxContent+1)...)
	if x, n, e := der.Take(long); e != api.ErrLength || n != 0 || !zero(x) {
		t.Errorf("one above MaxContent: %d in all, error %d", n, e)
	}
}

// P1.3
func TestOne(t *testing.T) {
	if x, e := der.One(probe.Raw("04 01 07")); e != api.OK || !same(x, api.Element{Tag: 4, Content: []byte{7}}) {
		t.Errorf("04 01 07: %v, error %d", x, e)
	}
	if x, e := der.One(probe.Raw("05 00")); e != api.OK || !same(x, api.Element{Tag: 5}) {
		t.Errorf("05 00: %v, error %d", x, e)
	}
	for _, s := range []string{"04 01 07 99", "05 00 00", "05 00 05 00", "05 00 1f"} {
		if x, e := der.One(probe.Raw(s)); e != api.ErrRest || !zero(x) {
			t.Errorf("One(%s): %v, error %d", s, x, e)
		}
	}
	for _, f := range faults {
		if x, e := der.One(probe.Raw(f.b)); e != f.want || !zero(x) {
			t.Errorf("One(%s): %v, error %d; want error %d", f.b, x, e, f.want)
		}
	}
	if x, e := der.One(nil); e != api.ErrShort || !zero(x) {
		t.Errorf("One(nil): %v, error %d", x, e)
	}
	for _, h := range heads {
		b := append(probe.Raw("04"+h.head), filled(h.n)...)
		if x, e := der.One(b); e != api.OK || len(x.Content) != h.n {
			t.Errorf("%d bytes: error %d", h.n, e)
		}
		if x, e := der.One(append(b, 0)); e != api.ErrRest || !zero(x) {
			t.Errorf("%d bytes and one behind: error %d", h.n, e)
		}
	}
}

// P1.4
func TestAll(t *testing.T) {
	l, n, e := der.All(probe.Raw("04 00 05 00"))
	if e != api.OK || n != 4 || len(l) != 2 || !same(l[0], api.Element{Tag: 4}) || !same(l[1], api.Element{Tag: 5}) {
		t.Errorf("04 00 05 00: %v, %d, error %d", l, n, e)
	}
	for _, b := range [][]byte{nil, {}} {
		if l, n, e := der.All(b); e != api.OK || n != 0 || len(l) != 0 {
			t.Errorf("no byte: %v, %d, error %d", l, n, e)
		}
	}
	if l, n, e := der.All(probe.Raw("04 00 05")); e != api.ErrShort || n != 2 || l != nil {
		t.Errorf("04 00 05: %v, %d, error %d", l, n, e)
	}
	long := put(t, 4, filled(300))
	b := append(probe.Raw("02 01 05"), long...)
	if l, n, e := der.All(b); e != api.OK || n != len(b) || len(l) != 2 || !bytes.Equal(l[1].Content, filled(300)) {
		t.Errorf("a long one: %d elements, %d, error %d", len(l), n, e)
	}
}

// P1.4: the first that is wrong is told, by its own place.
func TestAllFaults(t *testing.T) {
	for _, f := range faults {
		if f.b == "" {
			continue // no byte is no element, not a wrong one
		}
		for _, ahead := range []string{"", "05 00", "04 02 1f 1f 30 01 1f"} {
			b := probe.Raw(ahead + f.b)
			if l, n, e := der.All(b); e != f.want || n != len(probe.Raw(ahead)) || l != nil {
				t.Errorf("All(%s | %s): %v, %d, error %d; want error %d", ahead, f.b, l, n, e, f.want)
			}
		}
	}
	if l, n, e := der.All(probe.Raw("05 00 1f 05 00 04 80")); e != api.ErrTag || n != 2 || l != nil {
		t.Errorf("two wrong: %v, %d, error %d", l, n, e)
	}
}

// P1.8
func TestSize(t *testing.T) {
	for _, h := range heads {
		if n := der.Size(h.n); n != 1+len(h.head)/2 {
			t.Errorf("Size(%d): %d", h.n, n)
		}
	}
	for _, n := range []int{-1, -128, math.MinInt, api.MaxContent + 1, 1 << 32, math.MaxInt} {
		if s := der.Size(n); s != 0 {
			t.Errorf("Size(%d): %d", n, s)
		}
	}
	for _, n := range []int{0, 1, 127, 128, 255, 256, 4096, 65535, 65536, api.MaxContent} {
		if b := put(t, 4, make([]byte, n)); len(b) != der.Size(n)+n {
			t.Errorf("Size(%d): %d, but Put has %d bytes ahead", n, der.Size(n), len(b)-n)
		}
	}
}
