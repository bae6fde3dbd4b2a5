package text_test

import (
	"runtime"
	"slices"
	"strings"
	"testing"
	"unsafe"

	"chancery/api"
	"chancery/text"
)

// share tells whether two texts have memory in common.
func share(a, b string) bool {
	if a == "" || b == "" {
		return false
	}
	x, y := uintptr(unsafe.Pointer(unsafe.StringData(a))), uintptr(unsafe.Pointer(unsafe.StringData(b)))
	return x < y+uintptr(len(b)) && y < x+uintptr(len(a))
}

// P2: what is answered shares no memory with the argument, nor with another answer.
func TestNewMemory(t *testing.T) {
	s := strings.Repeat("some words ", 20) + "end"
	one, two := text.Fold(s), text.Fold(s)
	if share(one, s) || share(two, s) || share(one, two) {
		t.Error("Fold")
	}
	words := text.Words(s)
	l := append(slices.Collect(words), slices.Collect(words)...)
	for i, a := range l {
		if share(a, s) {
			t.Errorf("the word %d, %q, shares memory with the text", i, a)
		}
		for j, b := range l[:i] {
			if share(a, b) {
				t.Errorf("the words %d and %d share memory", j, i)
			}
		}
	}
}

// P3, P5: the same is told again, behind errors too, and no goroutine is left.
func TestNothingIsKept(t *testing.T) {
	before := runtime.NumGoroutine()
	for range 50 {
		for _, k := range known {
			if n, e := text.Kind("\xff"); n != 0 || e != api.ErrText {
				t.Fatalf("Kind: %d, error %d", n, e)
			}
			for range text.Words("left early") {
				break
			}
			if s := text.Fold(k.s); s != k.fold {
				t.Fatalf("Fold(%q): %q", k.s, s)
			}
			if l := slices.Collect(text.Words(k.s)); !slices.Equal(l, k.words) {
				t.Fatalf("Words(%q): %q", k.s, l)
			}
			if text.Valid(k.s) != first(k.s) || text.May(12, k.s) != (first(k.s) == len(k.s)) {
				t.Fatalf("Valid(%q): %d", k.s, text.Valid(k.s))
			}
		}
	}
	if after := runtime.NumGoroutine(); after > before {
		t.Errorf("%d goroutines, ahead of it %d", after, before)
	}
}
