package der_test

import (
	"bytes"
	"slices"
	"testing"

	"chancery/api"
	"chancery/der"
	"chancery/probe"
)

// told is what Each tells: places and elements.
type told struct {
	at int
	x  api.Element
}

func gather(b []byte) []told {
	var l []told
	for at, x := range der.Each(b) {
		l = append(l, told{at, x})
	}
	return l
}

func sameTold(x, y []told) bool {
	return slices.EqualFunc(x, y, func(a, b told) bool { return a.at == b.at && same(a.x, b.x) })
}

// P1.5
func TestEach(t *testing.T) {
	two := []told{{0, api.Element{Tag: 4}}, {2, api.Element{Tag: 5, Content: []byte{9}}}}
	for _, c := range []struct {
		b    string
		want []told
	}{
		{"", nil},
		{"1f 00 05 00", nil},
		{"04 00 05 01 09", two},
		{"04 00 05 01 09 04", two},
		{"04 00 05 01 09 1f 05 00", two}, // what stands behind the first that is wrong is not told
		{"30 02 05 00", []told{{0, api.Element{Tag: 0x30, Content: []byte{5, 0}}}}},
	} {
		if l := gather(probe.Raw(c.b)); !sameTold(l, c.want) {
			t.Errorf("Each(%s): %v", c.b, l)
		}
	}
	if l := gather(nil); len(l) != 0 {
		t.Errorf("Each(nil): %v", l)
	}
	for _, f := range faults {
		if l := gather(probe.Raw("04 00 05 01 09" + f.b)); !sameTold(l, two) {
			t.Errorf("Each(two | %s): %v", f.b, l)
		}
	}
	long := append(put(t, 4, filled(70000)), 5, 0)
	want := []told{{0, api.Element{Tag: 4, Content: filled(70000)}}, {70005, api.Element{Tag: 5}}}
	if l := gather(long); !sameTold(l, want) {
		t.Errorf("a long one: %d elements", len(l))
	}
}

// P1.5, P2: it may be left, and gone over again, also while it is gone over.
func TestEachAgain(t *testing.T) {
	b := probe.Raw("04 01 01 05 01 02 04 01 03")
	each := der.Each(b)
	places := 0
	for at := range each {
		places = 10*places + at
		if at == 3 {
			break
		}
	}
	for at, x := range each {
		for inner := range each {
			places = 10*places + inner
			break
		}
		places = 10*places + at
		x.Content[0] = 99
	}
	if places != 3_00_03_06 {
		t.Errorf("places %d", places)
	}
	var l []told
	for at, x := range each {
		l = append(l, told{at, x})
	}
	if !sameTold(l, gather(b)) {
		t.Errorf("again: %v", l)
	}
}

// P1.5: it tells of b as it was at the call, not as it is when it is gone over.
func TestEachAtTheCall(t *testing.T) {
	b := probe.Raw("04 01 01 05 01 02")
	want := gather(b)
	each := der.Each(b)
	clear(b)
	var l []told
	for at, x := range each {
		l = append(l, told{at, x})
		b[5] = 77
	}
	if !sameTold(l, want) {
		t.Errorf("%v", l)
	}
}

// P2: what a range tells is new memory each time.
func TestEachNewMemory(t *testing.T) {
	b := probe.Raw("04 02 01 02 04 02 03 04")
	was := bytes.Clone(b)
	each := der.Each(b)
	var contents [][]byte
	for range 2 {
		for _, x := range each {
			contents = append(contents, x.Content)
		}
	}
	for i, c := range contents {
		probe.Scribble(c, byte(0xa0+i))
	}
	for i, c := range contents {
		if c[0] != byte(0xa0+i) || c[1] != byte(0xa0+i) {
			t.Errorf("content %d shares memory with another one: %x", i, c)
		}
	}
	if !bytes.Equal(b, was) {
		t.Errorf("what was handed in is changed: %x", b)
	}
	if l := gather(b); len(l) != 2 || !bytes.Equal(l[0].x.Content, []byte{1, 2}) {
		t.Errorf("what is kept was changed: %v", l)
	}
}
