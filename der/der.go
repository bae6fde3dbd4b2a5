// Package der is layer 1: see shared/doc/01-der.md.
package der

import (
	"bytes"
	"iter"
	"slices"

	"chancery/api"
)

// Put lays an element's bytes behind others.
func Put(b []byte, tag int, content ...[]byte) ([]byte, api.Errno) {
	if !isTag(tag) {
		return nil, api.ErrArg
	}
	n := 0
	for _, c := range content {
		// Asked by what is left, so that no sum can wrap round.
		if len(c) > api.MaxContent-n {
			return nil, api.ErrLong
		}
		n += len(c)
	}
	// A list of its own: appending to b could write into its spare room.
	out := make([]byte, 0, len(b)+Size(n)+n)
	out = append(out, b...)
	out = append(out, byte(tag))
	out = putLength(out, n)
	for _, c := range content {
		out = append(out, c...)
	}
	return out, api.OK
}

// Take takes the element with which bytes begin, and tells how many bytes it has.
func Take(b []byte) (api.Element, int, api.Errno) {
	s, e := find(b)
	if e != api.OK {
		return api.Element{}, 0, e
	}
	return s.element(b), s.to, api.OK
}

// One takes bytes that are one element.
func One(b []byte) (api.Element, api.Errno) {
	s, e := find(b)
	if e != api.OK {
		return api.Element{}, e
	}
	if s.to < len(b) {
		return api.Element{}, api.ErrRest
	}
	return s.element(b), api.OK
}

// All takes bytes that are elements, one behind the other.
func All(b []byte) ([]api.Element, int, api.Errno) {
	var l []api.Element
	end := 0
	for at, s := range spans(b) {
		l = append(l, s.element(b[at:]))
		end = at + s.to
	}
	if end < len(b) {
		_, e := find(b[end:])
		return nil, end, e
	}
	return l, end, api.OK
}

// Each goes over the elements with which bytes begin.
func Each(b []byte) iter.Seq2[int, api.Element] {
	// Kept apart, since b may be changed between the call and the going over.
	kept := bytes.Clone(b)
	return func(yield func(int, api.Element) bool) {
		for at, s := range spans(kept) {
			if !yield(at, s.element(kept[at:])) {
				return
			}
		}
	}
}

// Check looks whether bytes are one element, and those in it too.
func Check(b []byte, deep int) (int, int, api.Errno) {
	if deep < 0 || deep > api.MaxDeep {
		return 0, 0, api.ErrArg
	}
	count := 0
	// visit answers where the element that begins at a place ends, or beside an error where what is wrong begins.
	var visit func(at, end, level int) (int, api.Errno)
	visit = func(at, end, level int) (int, api.Errno) {
		if level > deep {
			return at, api.ErrDeep
		}
		s, e := find(b[at:end])
		if e != api.OK {
			return at, e
		}
		count++
		next := at + s.to
		if !s.constructed() {
			return next, api.OK
		}
		for at += s.from; at < next; {
			if at, e = visit(at, next, level+1); e != api.OK {
				return at, e
			}
		}
		return next, api.OK
	}
	place, e := visit(0, len(b), 0)
	if e == api.OK && place < len(b) {
		e = api.ErrRest
	}
	if e != api.OK {
		return 0, place, e
	}
	return count, 0, api.OK
}

// Set puts byte strings in the order of a SET OF.
func Set(l ...[]byte) [][]byte {
	out := make([][]byte, 0, len(l))
	for _, b := range l {
		out = append(out, bytes.Clone(b))
	}
	// Stable: strings that differ by zeros at the end alone are alike, but not the same.
	slices.SortStableFunc(out, comparePadded)
	return out
}

// Size tells how many bytes stand ahead of a content.
func Size(n int) int {
	switch {
	case n < 0 || n > api.MaxContent:
		return 0
	case n <= maxShort:
		return 2
	case n < 1<<8:
		return 3
	case n < 1<<16:
		return 4
	}
	return 5
}
