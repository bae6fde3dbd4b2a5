package probe

import (
	"bytes"

	"chancery/api"
)

// Test is whom it is told what fails: a *testing.T.
type Test interface {
	Helper()
	Errorf(format string, parts ...any)
	Fatalf(format string, parts ...any)
}

// Face is a call that reads bytes, whatever it answers.
type Face interface {
	Name() string
	Some() [][]byte                     // bytes of each sort that should be taken
	Is(b []byte) bool                   // whether bytes should be taken
	AsShould(t Test, b []byte) bool     // fails unless bytes are read as they should be; tells whether they are taken
	None(t Test, what string, b []byte) // fails unless bytes are refused, and nothing stands beside the error
	Own(t Test)                         // fails unless bytes are left as they are, and what is read is memory of its own
}

// Reader is a call that reads, and what it should answer.
type Reader[T any] struct {
	What     string
	Wrong    api.Errno // what is told of bytes that are nothing's
	Read     func([]byte) (T, api.Errno)
	Parse    func([]byte) (T, bool) // what should be read, found in another way, and whether there is such a thing
	Same     func(a, b T) bool      // nil lists and empty ones are alike
	Scribble func(T)                // writes over all lists, and the spare room behind them
	Samples  [][]byte
}

func (r Reader[T]) Name() string     { return r.What }
func (r Reader[T]) Some() [][]byte   { return r.Samples }
func (r Reader[T]) Is(b []byte) bool { _, ok := r.Parse(b); return ok }

func (r Reader[T]) None(t Test, what string, b []byte) {
	t.Helper()
	var nothing T
	if got, e := r.Read(b); e != r.Wrong || !r.Same(got, nothing) {
		t.Errorf("%s, %s: %.600x is read as %+v, error %d", r.What, what, b, got, e)
	}
}

func (r Reader[T]) AsShould(t Test, b []byte) bool {
	t.Helper()
	want, ok := r.Parse(b)
	wrong := api.OK
	if !ok {
		var nothing T
		want, wrong = nothing, r.Wrong
	}
	if got, e := r.Read(b); e != wrong || !r.Same(got, want) {
		t.Fatalf("%s: %.600x is read as %+v, error %d; want %+v, error %d", r.What, b, got, e, want, wrong)
	}
	return ok
}

func (r Reader[T]) Own(t Test) {
	t.Helper()
	for _, b := range r.Samples {
		r.ownOf(t, b)
		for _, near := range [][]byte{b[:len(b)-1], append(bytes.Clone(b), 0), b[1:]} {
			given, left := RoomyPieces(near)
			if r.AsShould(t, given[0]); !left() {
				t.Fatalf("%s: reading changes %.300x", r.What, near)
			}
		}
	}
}

// ownOf is Own of bytes that are taken.
func (r Reader[T]) ownOf(t Test, b []byte) {
	t.Helper()
	want, _ := r.Parse(b)
	part, whole := Roomy(b)
	was := bytes.Clone(whole)
	one, e1 := r.Read(part)
	two, e2 := r.Read(part)
	r.Scribble(one)
	three, e3 := r.Read(part)
	if !bytes.Equal(whole, was) {
		t.Fatalf("%s: reading changes %.300x", r.What, b)
	}
	Scribble(part, 0x55)
	if e1 != api.OK || e2 != api.OK || e3 != api.OK || !r.Same(two, want) || !r.Same(three, want) {
		t.Fatalf("%s: what is read of %.300x shares memory: %+v, %+v, errors %d, %d, %d", r.What, b, two, three, e1, e2, e3)
	}
}
