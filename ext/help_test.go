package ext_test

import (
	"bytes"
	"fmt"
	"slices"
	"testing"

	"chancery/api"
	"chancery/der"
	"chancery/probe"
)

// kind is a kind of values: its calls, and what they should answer by the chapter's words and by the library.
type kind[T any] struct {
	what     string
	write    func(T) ([]byte, api.Errno)
	read     func([]byte) (T, api.Errno)
	may      func(T) bool             // by the chapter's words
	bytes    func(T) ([]byte, error)  // the library's, of one that may be
	parse    func([]byte) (T, error)  // what the library reads: more than may be
	same     func(a, b T) bool        // nil lists and empty ones are alike
	roomy    func(T) (T, func() bool) // a copy with spare room behind its lists, and whether all of it is as it was
	scribble func(T)                  // writes over all of its lists, and the spare room behind them
	goods    []T                      // of each sort that may be
	wrongs   []T                      // of each sort that may not be
}

// taken is the value whose bytes these are, by the library and the chapter's words, and whether there is one.
func (k kind[T]) taken(b []byte) (v T, ok bool) {
	got, err := k.parse(b)
	if err != nil || !k.may(got) {
		return v, false
	}
	if again, err := k.bytes(got); err != nil || !bytes.Equal(again, b) {
		return v, false
	}
	return got, true
}

// takes fails unless a value has these bytes, which are read as it.
func (k kind[T]) takes(t *testing.T, v T, b []byte) {
	t.Helper()
	if got, e := k.write(v); e != api.OK || !bytes.Equal(got, b) {
		t.Fatalf("%s: %.300q is written as %.300x, error %d; want %.300x", k.what, show(v), got, e, b)
	}
	if got, e := k.read(b); e != api.OK || !k.same(got, v) {
		t.Fatalf("%s: %.300x is read as %.300q, error %d; want %.300q", k.what, b, show(got), e, show(v))
	}
}

// refuses fails unless a value may not be, and nothing stands beside the error.
func (k kind[T]) refuses(t *testing.T, v T) {
	t.Helper()
	if got, e := k.write(v); e != api.ErrExt || len(got) > 0 {
		t.Fatalf("%s: %.300q is written as %.300x, error %d", k.what, show(v), got, e)
	}
}

// noBytes fails unless bytes are no value's, and nothing stands beside the error.
func (k kind[T]) noBytes(t *testing.T, what string, b []byte) {
	t.Helper()
	var none T
	if got, e := k.read(b); e != api.ErrExt || !k.same(got, none) {
		t.Errorf("%s, %s: %.300x is read as %.300q, error %d", k.what, what, b, show(got), e)
	}
}

// asWords fails unless a value is written as it should be, if it may be.
func (k kind[T]) asWords(t *testing.T, v T) bool {
	t.Helper()
	if !k.may(v) {
		k.refuses(t, v)
		return false
	}
	b, err := k.bytes(v)
	if err != nil {
		t.Fatal(k.what, err)
	}
	k.takes(t, v, b)
	return true
}

// asLibrary fails unless bytes are read as they should be; it tells whether they are taken.
func (k kind[T]) asLibrary(t *testing.T, b []byte) bool {
	t.Helper()
	want, ok := k.taken(b)
	wrong := api.OK
	if !ok {
		wrong = api.ErrExt
	}
	if got, e := k.read(b); e != wrong || !k.same(got, want) {
		t.Fatalf("%s: %.600x is read as %.600q, error %d; want %.600q, error %d", k.what, b, show(got), e, show(want), wrong)
	}
	return ok
}

// sortsOf fails unless each value of each sort is written as it should be, or refused.
func (k kind[T]) sortsOf(t *testing.T) {
	t.Helper()
	for _, v := range k.goods {
		if !k.asWords(t, v) {
			t.Errorf("%s: %.300q may not be", k.what, show(v))
		}
	}
	for _, v := range k.wrongs {
		if k.asWords(t, v) {
			t.Errorf("%s: %.300q may be", k.what, show(v))
		}
	}
}

// samples are the bytes of each value of each sort that may be, by the library.
func (k kind[T]) samples(t *testing.T) [][]byte {
	t.Helper()
	var l [][]byte
	for _, v := range k.goods {
		b, err := k.bytes(v)
		if err != nil {
			t.Fatal(k.what, err)
		}
		l = append(l, b)
	}
	return l
}

func (k kind[T]) name() string { return k.what }

// face is a kind of values, whatever they are.
type face interface {
	name() string
	samples(t *testing.T) [][]byte
	asLibrary(t *testing.T, b []byte) bool
	noBytes(t *testing.T, what string, b []byte)
	sortsOf(t *testing.T)        // that what is of each sort is written, or not
	argumentsOf(t *testing.T)    // that arguments are left, and not kept
	answersOf(t *testing.T)      // that answers are memory of their own
	againOf(t *testing.T)        // that the same is answered again
	thereAndBackOf(t *testing.T) // that what is read of bytes that were written is what was written
}

// faces are all kinds.
func faces() []face {
	return []face{exts(), basics(), usages(), purposes(), names(), trees(), subjects(), issuers(), numbers(), reasons()}
}

// show is a value, to be read.
func show(v any) string { return fmt.Sprintf("%+v", v) }

// raw are bytes by digits.
func raw(digits string) []byte { return probe.Raw(digits) }

// put is the bytes of an element, with a length that the chapter's words ask for.
func put(tag byte, parts ...[]byte) []byte {
	b := slices.Concat(parts...)
	return slices.Concat([]byte{tag}, length(len(b)), b)
}

// length is that of n bytes.
func length(n int) []byte {
	digits := []byte{byte(n >> 16), byte(n >> 8), byte(n)}
	switch {
	case n < 128:
		return digits[2:]
	case n < 1<<8:
		return slices.Concat([]byte{0x81}, digits[2:])
	case n < 1<<16:
		return slices.Concat([]byte{0x82}, digits[1:])
	}
	return slices.Concat([]byte{0x83}, digits)
}

// node is an element: what is in it, others or a content; by how many bytes its length is too long (below 0: it is not said).
type node struct {
	tag     byte
	parts   []*node
	content []byte
	long    int
	above   *node
}

// written is the bytes of it.
func (n *node) written() []byte {
	b := n.inner()
	switch l := length(len(b)); {
	case n.long < 0:
		return slices.Concat([]byte{n.tag, 0x80}, b, []byte{0, 0})
	case n.long > 0 && len(l) == 1:
		return slices.Concat([]byte{n.tag, 0x80 + byte(n.long)}, make([]byte, n.long-1), l, b)
	case n.long > 0:
		return slices.Concat([]byte{n.tag, l[0] + byte(n.long)}, make([]byte, n.long), l[1:], b)
	default:
		return slices.Concat([]byte{n.tag}, l, b)
	}
}

// inner is the bytes of what is in it.
func (n *node) inner() []byte {
	var all [][]byte
	for _, p := range n.parts {
		all = append(all, p.written())
	}
	return slices.Concat(append(all, n.content)...)
}

// fill makes of bytes what is in an element: others, if they are constructed and whole.
func (n *node) fill(b []byte, constructed bool) {
	l, _, e := der.All(b)
	if !constructed || e != api.OK {
		n.content = b
		return
	}
	for _, x := range l {
		part := &node{tag: byte(x.Tag), above: n}
		part.fill(x.Content, x.Tag&32 != 0)
		n.parts = append(n.parts, part)
	}
}

// all are all that are in it, from left to right.
func (n *node) all() []*node {
	var l []*node
	for _, p := range n.parts {
		l = append(append(l, p), p.all()...)
	}
	return l
}

// at is its place in the one above.
func (n *node) at() int { return slices.Index(n.above.parts, n) }

// change is what is done to an element that stands in another one.
type change struct {
	what string
	do   func(n *node)
}

// changes are those that make other bytes of a value's, with all lengths as they should be, but where the change is a length.
func changes() []change {
	l := []change{
		{"twice", func(n *node) { n.above.parts = slices.Insert(n.above.parts, n.at(), n) }},
		{"missing", func(n *node) { n.above.parts = slices.Delete(n.above.parts, n.at(), n.at()+1) }},
		{"empty", func(n *node) { n.parts, n.content = nil, nil }},
		{"behind the next one", func(n *node) {
			if at, l := n.at(), n.above.parts; at+1 < len(l) {
				l[at], l[at+1] = l[at+1], l[at]
			}
		}},
		{"at the end", func(n *node) {
			n.above.parts = append(slices.Delete(n.above.parts, n.at(), n.at()+1), n)
		}},
		{"within another one", func(n *node) { n.parts, n.content = []*node{{tag: n.tag, content: n.inner()}}, nil }},
		{"within a sequence", func(n *node) {
			n.parts, n.content, n.tag = []*node{{tag: n.tag, content: n.inner()}}, nil, 0x30
		}},
		{"without itself", func(n *node) {
			n.above.parts = slices.Replace(n.above.parts, n.at(), n.at()+1, n.parts...)
		}},
		{"a byte fewer", func(n *node) {
			b := n.inner()
			n.parts, n.content = nil, b[:max(0, len(b)-1)]
		}},
		{"a byte fewer ahead", func(n *node) {
			b := n.inner()
			n.parts, n.content = nil, b[min(1, len(b)):]
		}},
	}
	for _, long := range []int{1, 2, 3, -1} {
		l = append(l, change{fmt.Sprintf("a length %d longer", long), func(n *node) { n.long = long }})
	}
	for _, x := range []byte{0, 1, 0x7f, 0x80, 0xff} {
		l = append(l,
			change{fmt.Sprintf("a byte %x more", x), func(n *node) { n.parts, n.content = nil, append(n.inner(), x) }},
			change{fmt.Sprintf("a byte %x more ahead", x), func(n *node) { n.parts, n.content = nil, append([]byte{x}, n.inner()...) }})
	}
	for tag := range 256 {
		l = append(l, change{fmt.Sprintf("the tag %x", tag), func(n *node) { n.tag = byte(tag) }})
	}
	for _, digits := range []string{"05 00", "01 01 00", "01 01 ff", "01 01 01", "02 01 00", "02 01 05", "02 01 ff", "04 00", "04 01 00", "06 03 55 1d 0f", "0a 01 01", "30 00", "31 00", "30 03 82 01 61", "80 00", "80 01 00", "82 01 61", "a0 00", "a1 00", "a0 05 30 03 82 01 61", "a1 05 30 03 82 01 61", "a2 00", "00 00"} {
		more := &node{content: raw(digits)[2:], tag: raw(digits)[0]}
		l = append(l,
			change{digits + " ahead", func(n *node) { n.above.parts = slices.Insert(n.above.parts, n.at(), more) }},
			change{digits + " behind", func(n *node) { n.above.parts = slices.Insert(n.above.parts, n.at()+1, more) }},
			change{digits + " in its place", func(n *node) { n.above.parts[n.at()] = more }})
	}
	return l
}

// changed goes over what becomes of bytes by each change of each element in them.
func changed(b []byte) func(yield func(what string, b []byte) bool) {
	return func(yield func(string, []byte) bool) {
		count := len(tree(b).all())
		for _, c := range changes() {
			for i := range count {
				root := tree(b)
				n := root.all()[i]
				what := fmt.Sprintf("the element %d of tag %x: %s", i, n.tag, c.what)
				c.do(n)
				if !yield(what, root.inner()) {
					return
				}
			}
		}
	}
}

// tree is bytes as the elements that they are.
func tree(b []byte) *node {
	root := &node{}
	root.fill(b, true)
	return root
}
