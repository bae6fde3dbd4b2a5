package probe_test

import (
	"bytes"
	"slices"
	"testing"

	"chancery/probe"
)

func TestRaw(t *testing.T) {
	if b := probe.Raw("00 7f Ff"); !bytes.Equal(b, []byte{0, 127, 255}) {
		t.Errorf("%v", b)
	}
	if b := probe.Raw(""); len(b) != 0 {
		t.Errorf("%v", b)
	}
	for _, wrong := range []string{"0", "000", "0g", "-1"} {
		if !panics(func() { probe.Raw(wrong) }) {
			t.Errorf("%q is taken for digits", wrong)
		}
	}
}

func panics(f func()) (caught bool) {
	defer func() { caught = recover() != nil }()
	f()
	return
}

func TestRoomyAndScribble(t *testing.T) {
	b := []byte{1, 2}
	part, whole := probe.Roomy(b)
	if !bytes.Equal(part, b) || len(whole) <= len(b) || cap(part) != len(whole) {
		t.Errorf("%v of %d, room for %d", part, len(whole), cap(part))
	}
	probe.Scribble(part, 7)
	if b[0] != 1 || !bytes.Equal(whole, bytes.Repeat([]byte{7}, len(whole))) {
		t.Errorf("%v, %v", b, whole)
	}
}

func TestLimbs(t *testing.T) {
	a := []uint64{1, 1 << 63}
	part, whole := probe.Roomy(a)
	if !slices.Equal(part, a) || len(whole) <= len(a) || cap(part) != len(whole) {
		t.Errorf("%v of %d, room for %d", part, len(whole), cap(part))
	}
	probe.Scribble(part, 1<<40)
	if a[1] != 1<<63 || !slices.Equal(whole, slices.Repeat([]uint64{1 << 40}, len(whole))) {
		t.Errorf("%v, %v", a, whole)
	}
	var l [][]uint64
	for row := range probe.Short(a, 2) {
		l = append(l, row)
	}
	if len(l) != 7 || len(l[0]) != 0 || !slices.Equal(l[5], []uint64{1 << 63, 1}) {
		t.Errorf("%v", l)
	}
}

func TestRoomyWith(t *testing.T) {
	l := []string{"a", "b"}
	part, whole := probe.RoomyWith(l, "spare")
	if !slices.Equal(part, l) || len(whole) <= len(l) || cap(part) != len(whole) || whole[2] != "spare" {
		t.Errorf("%q of %d, room for %d", part, len(whole), cap(part))
	}
	probe.Scribble(part, "x")
	if l[0] != "a" || !slices.Equal(whole, slices.Repeat([]string{"x"}, len(whole))) {
		t.Errorf("%q, %q", l, whole)
	}
}

func TestShort(t *testing.T) {
	var l []string
	for b := range probe.Short([]byte("xy"), 2) {
		l = append(l, string(b))
		probe.Scribble(b, 'z')
	}
	if len(l) != 7 || l[0] != "" || l[1] != "x" || l[2] != "xx" || l[6] != "yy" {
		t.Errorf("%q", l)
	}
	n := 0
	for range probe.Short([]byte("xy"), 9) {
		if n++; n == 5 {
			break
		}
	}
	if n != 5 {
		t.Error(n)
	}
}
