package der_test

import (
	"bytes"
	"testing"

	"chancery/api"
	"chancery/der"
	"chancery/probe"
)

var someTags = []int{0, 1, 4, 30, 32, 0x30, 62, 128, 0xa0, 254}

// P1.9: Take of what Put has laid is that element, whatever stands behind it.
func TestTakeOfPut(t *testing.T) {
	for _, tag := range someTags {
		for n := range 300 {
			takeBack(t, tag, filled(n))
		}
	}
	for _, h := range heads {
		takeBack(t, 0x30, filled(h.n))
	}
}

func takeBack(t *testing.T, tag int, content []byte) {
	t.Helper()
	b := put(t, tag, content)
	for _, behind := range []string{"", "\x00", "\x1f", "\x80\x00", "\xff\xff\xff\xff", "\x04\x00"} {
		x, n, e := der.Take(append(bytes.Clone(b), behind...))
		if e != api.OK || n != len(b) || !same(x, api.Element{Tag: tag, Content: content}) {
			t.Errorf("tag %d, %d bytes, %x behind: tag %d, %d in all, error %d", tag, len(content), behind, x.Tag, n, e)
		}
	}
}

// P1.9: All of several, one behind the other, are these.
func TestAllOfPut(t *testing.T) {
	var b []byte
	var want []api.Element
	for i, n := range []int{0, 1, 127, 128, 0, 255, 256, 3, 65535, 65536, 0} {
		x := api.Element{Tag: someTags[i%len(someTags)], Content: filled(n)}
		want = append(want, x)
		var e api.Errno
		if b, e = der.Put(b, x.Tag, x.Content); e != api.OK {
			t.Fatalf("error %d", e)
		}
		l, end, e := der.All(b)
		if e != api.OK || end != len(b) || len(l) != len(want) {
			t.Fatalf("%d elements: %d, up to %d, error %d", len(want), len(l), end, e)
		}
		for i := range l {
			if !same(l[i], want[i]) {
				t.Errorf("element %d is another one", i)
			}
		}
	}
}

// P1.9: what All takes, put one behind the other, is the bytes again.
func TestPutOfAll(t *testing.T) {
	taken := 0
	for b := range probe.Short([]byte{0, 1, 2, 3, 4, 0x1f, 0x30, 0x81, 0xff}, 6) {
		l, end, e := der.All(b)
		if e != api.OK {
			if l != nil || end >= len(b) {
				t.Errorf("All(%x): %v, %d, error %d", b, l, end, e)
			}
			continue
		}
		taken++
		var again []byte
		for _, x := range l {
			if again, e = der.Put(again, x.Tag, x.Content); e != api.OK {
				t.Errorf("All(%x): %v, of which one is no element", b, l)
			}
		}
		if end != len(b) || !bytes.Equal(again, b) {
			t.Errorf("All(%x), put again: %x", b, again)
		}
	}
	if taken < 1000 {
		t.Errorf("only %d strings are elements", taken)
	}
}

// P1.9, P1.10: of any bytes, a beginning is an element just if Put can lay it, and at most one beginning is.
func TestOneForm(t *testing.T) {
	alphabet := []byte{0, 1, 2, 4, 0x1e, 0x1f, 0x30, 0x7f, 0x80, 0x81, 0x82, 0xff}
	for b := range probe.Short(alphabet, 5) {
		ends := []int{}
		for end := 2; end <= len(b); end++ {
			tag, content := int(b[0]), b[2:end] // so short a content has a length of one byte
			if laid, e := der.Put(nil, tag, content); e == api.OK && bytes.Equal(laid, b[:end]) {
				ends = append(ends, end)
			}
		}
		_, n, e := der.Take(b)
		if len(ends) > 1 || (e == api.OK) != (len(ends) == 1) || e == api.OK && n != ends[0] {
			t.Errorf("Take(%x): %d, error %d; Put can lay up to %v", b, n, e, ends)
		}
	}
}

// P1.10: an element's bytes have no beginning that is one, and none is longer than itself.
func TestNoneBeginsWithAnother(t *testing.T) {
	for _, h := range heads {
		if h.n > 70000 {
			continue
		}
		b := put(t, 4, make([]byte, h.n)) // zeros could be taken for an end
		for end := range b {
			// All beginnings near the edges; within a long content every 97th is enough.
			if end > 300 && end < len(b)-300 && end%97 != 0 {
				continue
			}
			if x, e := der.One(b[:end]); e != api.ErrShort || !zero(x) {
				t.Fatalf("%d bytes of an element with %d in its content: error %d", end, h.n, e)
			}
		}
	}
	var laid [][]byte
	for _, tag := range someTags {
		for n := range 260 {
			laid = append(laid, put(t, tag, make([]byte, n)))
		}
	}
	for i, x := range laid {
		for j, y := range laid {
			if i != j && bytes.HasPrefix(x, y) {
				t.Fatalf("%x.. begins with %x..", x[:2], y[:2])
			}
		}
	}
}
