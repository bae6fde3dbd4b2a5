package clock_test

import (
	"bytes"
	"runtime"
	"testing"

	"chancery/api"
	"chancery/clock"
	"chancery/probe"
)

// P2: a content that is answered shares memory with nothing.
func TestPutMemory(t *testing.T) {
	for _, k := range known {
		_, one, _ := clock.Put(k.t)
		_, two, _ := clock.Put(k.t)
		probe.Scribble(one, 'x')
		_, three, _ := clock.Put(k.t)
		if string(two) != k.content || string(three) != k.content {
			t.Errorf("Put(%d): %q and %q", k.t, two, three)
		}
	}
}

// P2: what Take reads stays as it is, spare room too, and what stands behind its end does not count.
func TestTakeLeaves(t *testing.T) {
	for _, k := range known {
		b, whole := probe.Roomy([]byte(k.content))
		was := bytes.Clone(whole)
		if n, e := clock.Take(k.tag, b); n != k.t || e != api.OK {
			t.Errorf("Take(%d, %q): %d, error %d", k.tag, b, n, e)
		}
		for cut := range b {
			if n, e := clock.Take(k.tag, b[:cut]); n != 0 || e != api.ErrForm {
				t.Errorf("Take(%d, %q): %d, error %d", k.tag, b[:cut], n, e)
			}
		}
		if !bytes.Equal(whole, was) {
			t.Errorf("Take(%d, %q): the content is changed", k.tag, k.content)
		}
	}
}

// P3: no list and an empty one are alike.
func TestEmpty(t *testing.T) {
	for tag, want := range map[int]api.Errno{4: api.ErrTag, 23: api.ErrForm, 24: api.ErrForm} {
		for _, b := range [][]byte{nil, {}} {
			if n, e := clock.Take(tag, b); n != 0 || e != want {
				t.Errorf("Take(%d, none): %d, error %d", tag, n, e)
			}
		}
	}
}

// P3, P5: the same is told again, behind errors too, and no goroutine is left.
func TestNothingIsKept(t *testing.T) {
	before := runtime.NumGoroutine()
	for range 100 {
		for _, k := range known {
			if _, e := clock.Seconds(at(2001, 2, 29, 0, 0, 0)); e != api.ErrTime {
				t.Fatalf("error %d", e)
			}
			c, e1 := clock.Civil(k.t)
			n, e2 := clock.Take(k.tag, []byte(k.content))
			s, e3 := clock.Text(k.t)
			if c != k.c || n != k.t || s != k.text || e1 != api.OK || e2 != api.OK || e3 != api.OK || clock.Days(2024, 2) != 29 || clock.Days(2023, 2) != 28 {
				t.Fatalf("%d: %v, %d, %q, errors %d, %d, %d", k.t, c, n, s, e1, e2, e3)
			}
		}
	}
	if after := runtime.NumGoroutine(); after > before {
		t.Errorf("%d goroutines, ahead of it %d", after, before)
	}
}
