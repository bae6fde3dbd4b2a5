package curve_test

import (
	"bytes"
	"slices"
	"testing"

	"chancery/api"
	"chancery/curve"
	"chancery/probe"
)

// encoded is a point's bytes, by the chapter's words.
func encoded(p api.Point) []byte { return slices.Concat([]byte{4}, p.X[:], p.Y[:]) }

// P10.4: written out.
func TestEncodeOfBase(t *testing.T) {
	want := probe.Raw("04 6b17d1f2 e12c4247 f8bce6e5 63a440f2 77037d81 2deb33a0 f4a13945 d898c296 4fe342e2 fe1a7f9b 8ee7eb4a 7c0f9e16 2bce3357 6b315ece cbb64068 37bf51f5")
	if b, e := curve.Encode(base); e != api.OK || !bytes.Equal(b, want) {
		t.Errorf("Encode: %x, error %d", b, e)
	}
	p, e := curve.Decode(want)
	is(t, "Decode", p, e, base)
}

// P10.4: of each sort, there and back.
func TestEncodeAndDecode(t *testing.T) {
	l := append(few()[1:], near()...)
	l = append(l, ofWords()...)
	l = append(l, chances(200)...)
	for _, p := range l {
		for _, q := range []api.Point{p, across(p)} {
			b, e := curve.Encode(q)
			if e != api.OK || !bytes.Equal(b, encoded(q)) {
				t.Fatalf("Encode(%s): %x, error %d", show(q), b, e)
			}
			got, e := curve.Decode(b)
			is(t, "Decode", got, e, q)
		}
	}
}

// P10.4: the far point, and what is none.
func TestEncodeOfNone(t *testing.T) {
	for _, n := range append(nones(), none{"the far point", far}) {
		if b, e := curve.Encode(n.p); e != api.ErrPoint || len(b) != 0 {
			t.Errorf("Encode of %s: %x, error %d", n.what, b, e)
		}
	}
}

// misses fails unless Decode answers this error, and else nothing.
func misses(t *testing.T, b []byte, want api.Errno) {
	t.Helper()
	if p, e := curve.Decode(b); e != want || p != (api.Point{}) {
		t.Fatalf("Decode of %d bytes, %x: %s, error %d; want error %d", len(b), b, show(p), e, want)
	}
}

// P10.4: other lengths, also of what begins like a point or ends like one.
func TestDecodeOfLengths(t *testing.T) {
	misses(t, nil, api.ErrForm)
	misses(t, []byte{}, api.ErrForm)
	whole := encoded(base)
	for n := range 65 {
		misses(t, whole[:n], api.ErrForm)
		misses(t, whole[65-n:], api.ErrForm)
		misses(t, make([]byte, n), api.ErrForm)
		misses(t, bytes.Repeat([]byte{4}, n), api.ErrForm)
	}
	for _, n := range []int{1, 2, 31, 32, 63, 64, 65, 1000, 1 << 20} {
		misses(t, append(slices.Clone(whole), make([]byte, n)...), api.ErrForm)
		misses(t, append(make([]byte, n), whole...), api.ErrForm)
	}
	for _, first := range []byte{2, 3} { // as others write a point by its x alone
		misses(t, append([]byte{first}, base.X[:]...), api.ErrForm)
	}
}

// P10.4: other first bytes, beside coordinates that are right, and beside such as are not: those count for nothing then.
func TestDecodeOfFirst(t *testing.T) {
	for first := range 256 {
		for _, p := range []api.Point{base, across(base), chances(1)[0], {}, {X: digest(allOnes), Y: digest(allOnes)}} {
			b := encoded(p)
			b[0] = byte(first)
			if first != 4 {
				misses(t, b, api.ErrForm)
			}
		}
	}
	misses(t, make([]byte, 65), api.ErrForm)
	misses(t, bytes.Repeat([]byte{255}, 65), api.ErrForm)
}

// P10.4: coordinates that are no point's. (What is far, and else a point, is written as that point.)
func TestDecodeOfNone(t *testing.T) {
	for _, n := range nones() {
		if n.p.Inf && curve.On(api.Point{X: n.p.X, Y: n.p.Y}) {
			continue
		}
		misses(t, encoded(n.p), api.ErrPoint)
	}
	misses(t, append([]byte{4}, make([]byte, 64)...), api.ErrPoint)
	misses(t, append([]byte{4}, bytes.Repeat([]byte{255}, 64)...), api.ErrPoint)
	misses(t, bytes.Repeat([]byte{4}, 65), api.ErrPoint)
	for bit := range 512 {
		misses(t, encoded(turned(base, bit)), api.ErrPoint)
	}
}

// P10.4: any bytes behind the first one.
func TestDecodeOfAny(t *testing.T) {
	var d probe.Draws
	for n := range 200 {
		b := d.Bytes(n)
		if n > 0 {
			b[0] = 4
		}
		if n == 65 {
			misses(t, b, api.ErrPoint)
		} else {
			misses(t, b, api.ErrForm)
		}
	}
}
