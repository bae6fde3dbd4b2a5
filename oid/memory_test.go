package oid_test

import (
	"bytes"
	"runtime"
	"slices"
	"testing"

	"chancery/api"
	"chancery/oid"
	"chancery/probe"
)

// roomy is l with spare room behind it that must not be touched; whole is both.
func roomy(l []int) (part, whole []int) {
	whole = append(slices.Clone(l), slices.Repeat([]int{-77}, 40)...)
	return whole[:len(l):len(whole)], whole
}

// scribble writes over a list, and over all the spare room behind it.
func scribble(l []int, with int) {
	l = l[:cap(l)]
	for i := range l {
		l[i] = with
	}
}

// P2: what is asked of arcs leaves them as they are, spare room too, and does not look behind their end.
func TestArcsAreLeft(t *testing.T) {
	l, whole := roomy([]int{2, 5, 4, 3})
	was := slices.Clone(whole)
	one, e1 := oid.Encode(l)
	two, e2 := oid.Encode(l)
	text, e3 := oid.Text(l)
	if !oid.May(l) || e1 != api.OK || e2 != api.OK || e3 != api.OK || !oid.Begins(l, l[:2]) || oid.Compare(l, l[:2]) != 1 {
		t.Errorf("errors %d, %d, %d", e1, e2, e3)
	}
	probe.Scribble(one, 0x77)
	if !slices.Equal(whole, was) {
		t.Error("the arcs are changed")
	}
	scribble(whole, 1)
	if !bytes.Equal(two, probe.Raw("55 04 03")) || text != "2.5.4.3" {
		t.Errorf("an answer shares memory: %x, %s", two, text)
	}
	if oid.May(whole[:1]) {
		t.Error("what stands behind the end of a list counts")
	}
}

// P2: arcs that are answered share memory with nothing.
func TestAnsweredArcs(t *testing.T) {
	b, whole := probe.Roomy(probe.Raw("55 04 03"))
	was := bytes.Clone(whole)
	want := []int{2, 5, 4, 3}
	for name, call := range map[string]func() ([]int, api.Errno){
		"Decode": func() ([]int, api.Errno) { return oid.Decode(b) },
		"Parse":  func() ([]int, api.Errno) { return oid.Parse("2.5.4.3") },
	} {
		one, e1 := call()
		two, e2 := call()
		scribble(one, -1)
		three, e3 := call()
		if e1 != api.OK || e2 != api.OK || e3 != api.OK || !slices.Equal(two, want) || !slices.Equal(three, want) {
			t.Errorf("%s: %d and %d, errors %d, %d, %d", name, two, three, e1, e2, e3)
		}
	}
	gather(b)
	if !bytes.Equal(whole, was) {
		t.Error("the bytes are changed")
	}
	for _, cut := range []int{0, 1, 2} {
		if l, e := oid.Decode(probe.Raw("81 81 01")[:cut]); l != nil || e != api.ErrShort {
			t.Errorf("what stands behind the end of the bytes counts: %d, error %d", l, e)
		}
	}
}

// P3, P5: the same is told again, behind errors too, and no goroutine is left, by loops that are left early neither.
func TestNothingIsKept(t *testing.T) {
	before := runtime.NumGoroutine()
	for range 100 {
		for _, c := range good {
			b, e := oid.Encode(c.arcs)
			if !bytes.Equal(b, probe.Raw(c.content)) || e != api.OK {
				t.Fatalf("Encode(%d): %x, error %d", c.arcs, b, e)
			}
			for range oid.Arcs(b) {
				break
			}
			if _, e := oid.Decode(append(b, 0x80)); e == api.OK {
				t.Fatalf("Decode(%x80) has no error", b)
			}
			if l, e := oid.Decode(b); !slices.Equal(l, c.arcs) || e != api.OK {
				t.Fatalf("Decode(%x): %d, error %d", b, l, e)
			}
		}
	}
	if after := runtime.NumGoroutine(); after > before {
		t.Errorf("%d goroutines, ahead of it %d", after, before)
	}
}
