package probe

import (
	"bytes"

	"chancery/api"
)

// Writer is a call that writes bytes, whatever of.
type Writer[T any] struct {
	What     string
	Write    func(T) ([]byte, api.Errno)
	May      func(T) bool                        // whether it should be written
	Roomy    func(T) (given T, left func() bool) // a copy with spare room behind its lists, and whether all of it is as it was
	Scribble func(T)                             // writes over all of its lists, and the spare room behind them
}

// Own fails unless these are left as they are, spare room behind their lists too, those that should not be written as well, and the bytes are memory of their own.
func (w Writer[T]) Own(t Test, l ...T) {
	t.Helper()
	for _, v := range l {
		given, left := w.Roomy(v)
		one, e1 := w.Write(given)
		was := bytes.Clone(one)
		two, e2 := w.Write(given)
		if !left() || e1 != e2 || (e1 == api.OK) != w.May(v) {
			t.Fatalf("%s of %.600v: left %t, errors %d, %d", w.What, v, left(), e1, e2)
		}
		Scribble(one, 0x55)
		if !left() || !bytes.Equal(two, was) {
			t.Fatalf("%s: the bytes of %.600v share memory", w.What, v)
		}
		if w.Scribble(given); !bytes.Equal(two, was) {
			t.Fatalf("%s: the bytes of %.600v share its memory", w.What, v)
		}
	}
}
