package der_test

import (
	"bytes"
	"testing"

	"chancery/api"
	"chancery/der"
	"chancery/probe"
)

// P2: Put neither changes nor shares what it is handed, spare room too.
func TestPutMemory(t *testing.T) {
	b, wholeB := probe.Roomy([]byte{5, 0})
	c, wholeC := probe.Roomy([]byte{1, 2, 3})
	wasB, wasC := bytes.Clone(wholeB), bytes.Clone(wholeC)
	one, e1 := der.Put(b, 4, c, c)
	two, e2 := der.Put(b, 4, c, c)
	none, e3 := der.Put(b, 4)
	want := []byte{5, 0, 4, 6, 1, 2, 3, 1, 2, 3}
	if e1 != api.OK || e2 != api.OK || e3 != api.OK || !bytes.Equal(one, want) {
		t.Fatalf("%x, errors %d %d %d", one, e1, e2, e3)
	}
	probe.Scribble(one, 0x77)
	probe.Scribble(none, 0x78)
	if !bytes.Equal(wholeB, wasB) || !bytes.Equal(wholeC, wasC) {
		t.Error("an argument is changed")
	}
	probe.Scribble(wholeB, 0x55)
	probe.Scribble(wholeC, 0x55)
	if !bytes.Equal(two, want) {
		t.Errorf("an answer shares memory: %x", two)
	}
}

// P2: a content may be a piece of the bytes ahead of it.
func TestPutOfItself(t *testing.T) {
	b, _ := probe.Roomy([]byte{5, 0})
	if out, e := der.Put(b, 4, b, b[:1:1], b[1:]); e != api.OK || !bytes.Equal(out, []byte{5, 0, 4, 4, 5, 0, 5, 0}) {
		t.Errorf("%x, error %d", out, e)
	}
}

// P2: elements share no memory with the bytes out of which they are taken, nor with each other.
func TestTakenMemory(t *testing.T) {
	b, whole := probe.Roomy(probe.Raw("04 02 01 02 04 02 01 02"))
	was := bytes.Clone(whole)
	x, _, _ := der.Take(b)
	y, _ := der.One(b[:4])
	l, _, e := der.All(b)
	if e != api.OK || len(l) != 2 {
		t.Fatalf("%v, error %d", l, e)
	}
	contents := [][]byte{x.Content, y.Content, l[0].Content, l[1].Content}
	probe.Scribble(contents[0], 0xa0)
	for i, c := range contents[1:] {
		if !bytes.Equal(c, []byte{1, 2}) {
			t.Errorf("content %d: %x", i+1, c)
		}
		probe.Scribble(c, byte(0xa1+i))
	}
	for i, c := range contents {
		if c[0] != byte(0xa0+i) {
			t.Errorf("content %d shares memory with another one", i)
		}
	}
	if !bytes.Equal(whole, was) {
		t.Error("the bytes are changed")
	}
}

// P2: what All has answered stays as it is when the bytes change.
func TestAllStays(t *testing.T) {
	b := probe.Raw("04 02 01 02 04 02 03 04")
	l, _, _ := der.All(b)
	x, _, _ := der.Take(b)
	y, _ := der.One(b[:4])
	clear(b)
	if len(l) != 2 || l[1].Content[1] != 4 || x.Content[1] != 2 || y.Content[1] != 2 {
		t.Errorf("%v %v %v", l, x, y)
	}
}

// P2: so with Check and Set.
func TestSetMemory(t *testing.T) {
	b, whole := probe.Roomy([]byte{3, 1})
	was := bytes.Clone(whole)
	l := [][]byte{b, b, {2}}
	one := der.Set(l...)
	two := der.Set(l...)
	for i, x := range one {
		probe.Scribble(x, byte(0xa0+i))
	}
	for i, x := range one {
		if x[0] != byte(0xa0+i) {
			t.Errorf("string %d shares memory with another one", i)
		}
	}
	one[0], one[1] = nil, nil
	if !bytes.Equal(whole, was) || len(l) != 3 || &l[0][0] != &b[0] || l[2][0] != 2 {
		t.Error("an argument is changed")
	}
	probe.Scribble(whole, 0x55)
	if !sameList(two, [][]byte{{2}, {3, 1}, {3, 1}}) {
		t.Errorf("an answer shares memory: %x", two)
	}
	c, wholeC := probe.Roomy(probe.Raw("30 03 02 01 05"))
	wasC := bytes.Clone(wholeC)
	if n, at, e := der.Check(c, 1); n != 2 || at != 0 || e != api.OK || !bytes.Equal(wholeC, wasC) {
		t.Errorf("Check: %d, %d, error %d, or its argument is changed", n, at, e)
	}
}

// P1, P2: spare room is no part of the bytes: what ends too soon ends there.
func TestSpareRoomIsNotRead(t *testing.T) {
	whole := probe.Raw("30 03 02 01 05")
	for end := range whole {
		b := whole[:end]
		if _, _, e := der.Take(b); e != api.ErrShort {
			t.Errorf("Take of %d bytes: error %d", end, e)
		}
		if _, _, e := der.Check(b, 1); e != api.ErrShort {
			t.Errorf("Check of %d bytes: error %d", end, e)
		}
		if l := gather(b); len(l) != 0 {
			t.Errorf("Each of %d bytes: %v", end, l)
		}
	}
}
