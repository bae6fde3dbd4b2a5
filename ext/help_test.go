package ext_test

import (
	"bytes"
	"fmt"
	"testing"

	"chancery/api"
	"chancery/probe"
)

// kind is a kind of values: its calls, and what they should answer by the chapter's words and by the library.
type kind[T any] struct {
	what     string
	write    func(T) ([]byte, api.Errno)
	read     func([]byte) (T, api.Errno)
	may      func(T) bool             // by the chapter's words
	bytes    func(T) ([]byte, error)  // the library's, of one that may be
	parse    func([]byte) (T, error)  // what the library reads: more than may be
	same     func(a, b T) bool        // nil lists and empty ones are alike
	roomy    func(T) (T, func() bool) // a copy with spare room behind its lists, and whether all of it is as it was
	scribble func(T)                  // writes over all of its lists, and the spare room behind them
	goods    []T                      // of each sort that may be
	wrongs   []T                      // of each sort that may not be
}

// taken is the value whose bytes these are, by the library and the chapter's words, and whether there is one.
func (k kind[T]) taken(b []byte) (v T, ok bool) {
	got, err := k.parse(b)
	if err != nil || !k.may(got) {
		return v, false
	}
	if again, err := k.bytes(got); err != nil || !bytes.Equal(again, b) {
		return v, false
	}
	return got, true
}

// takes fails unless a value has these bytes, which are read as it.
func (k kind[T]) takes(t *testing.T, v T, b []byte) {
	t.Helper()
	if got, e := k.write(v); e != api.OK || !bytes.Equal(got, b) {
		t.Fatalf("%s: %.300q is written as %.300x, error %d; want %.300x", k.what, show(v), got, e, b)
	}
	if got, e := k.read(b); e != api.OK || !k.same(got, v) {
		t.Fatalf("%s: %.300x is read as %.300q, error %d; want %.300q", k.what, b, show(got), e, show(v))
	}
}

// refuses fails unless a value may not be, and nothing stands beside the error.
func (k kind[T]) refuses(t *testing.T, v T) {
	t.Helper()
	if got, e := k.write(v); e != api.ErrExt || len(got) > 0 {
		t.Fatalf("%s: %.300q is written as %.300x, error %d", k.what, show(v), got, e)
	}
}

// reader is its call that reads.
func (k kind[T]) reader() probe.Reader[T] {
	return probe.Reader[T]{What: k.what, Wrong: api.ErrExt, Read: k.read, Parse: k.taken, Same: k.same, Scribble: k.scribble}
}

func (k kind[T]) Name() string                             { return k.what }
func (k kind[T]) Is(b []byte) bool                         { return k.reader().Is(b) }
func (k kind[T]) AsShould(t probe.Test, b []byte) bool     { return k.reader().AsShould(t, b) }
func (k kind[T]) None(t probe.Test, what string, b []byte) { k.reader().None(t, what, b) }

// Some are the bytes of each value of each sort that may be, by the library.
func (k kind[T]) Some() [][]byte {
	var l [][]byte
	for _, v := range k.goods {
		b, err := k.bytes(v)
		if err != nil {
			panic(err)
		}
		l = append(l, b)
	}
	return l
}

func (k kind[T]) Own(t probe.Test) {
	t.Helper()
	r := k.reader()
	r.Samples = k.Some()
	r.Own(t)
}

// asWords fails unless a value is written as it should be, if it may be.
func (k kind[T]) asWords(t *testing.T, v T) bool {
	t.Helper()
	if !k.may(v) {
		k.refuses(t, v)
		return false
	}
	b, err := k.bytes(v)
	if err != nil {
		t.Fatal(k.what, err)
	}
	k.takes(t, v, b)
	return true
}

// sortsOf fails unless each value of each sort is written as it should be, or refused.
func (k kind[T]) sortsOf(t *testing.T) {
	t.Helper()
	for _, v := range k.goods {
		if !k.asWords(t, v) {
			t.Errorf("%s: %.300q may not be", k.what, show(v))
		}
	}
	for _, v := range k.wrongs {
		if k.asWords(t, v) {
			t.Errorf("%s: %.300q may be", k.what, show(v))
		}
	}
}

// face is a kind of values, whatever they are.
type face interface {
	probe.Face
	sortsOf(t *testing.T)        // that what is of each sort is written, or not
	argumentsOf(t *testing.T)    // that arguments are left, and not kept
	againOf(t *testing.T)        // that the same is answered again
	thereAndBackOf(t *testing.T) // that what is read of bytes that were written is what was written
}

// faces are all kinds.
func faces() []face {
	return []face{exts(), basics(), usages(), purposes(), names(), trees(), subjects(), issuers(), numbers(), reasons()}
}

// show is a value, to be read.
func show(v any) string { return fmt.Sprintf("%+v", v) }

// raw are bytes by digits.
func raw(digits string) []byte { return probe.Raw(digits) }

// strangers are elements that are laid beside those of a value, or in their places.
func strangers() []string {
	return []string{"05 00", "01 01 00", "01 01 ff", "01 01 01", "02 01 00", "02 01 05", "02 01 ff", "04 00", "04 01 00", "06 03 55 1d 0f", "0a 01 01", "30 00", "31 00", "30 03 82 01 61", "80 00", "80 01 00", "82 01 61", "a0 00", "a1 00", "a0 05 30 03 82 01 61", "a1 05 30 03 82 01 61", "a2 00", "00 00"}
}
