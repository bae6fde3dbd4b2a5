package sign_test

import (
	"bytes"
	"crypto/sha256"
	"runtime"
	"slices"
	"sync"
	"testing"

	"chancery/api"
	"chancery/probe"
	"chancery/sign"
)

// P2: Sign and Verify leave the pieces, the spare room behind them and the list, also where they refuse.
func TestPiecesAreLeft(t *testing.T) {
	text := []byte("a text in pieces")
	for _, pieces := range append(cuts(text), nil, [][]byte{nil}, [][]byte{nil, {}, []byte("ab")}) {
		given, left := probe.RoomyPieces(pieces...)
		s := signed(t, small(5), given...)
		sign.Sign(api.Digest{}, given...)
		if !left() {
			t.Errorf("Sign changes its pieces, %q", pieces)
		}
		takes(t, "with room", true, libraryPoint(t, small(5)), s, given...)
		takes(t, "with room", false, libraryPoint(t, small(6)), s, given...)
		takes(t, "with room", false, far, s, given...)
		if !left() {
			t.Errorf("Verify changes its pieces, %q", pieces)
		}
	}
}

// P2: a signature stays as it is when the pieces are written over; the pieces are not kept.
func TestPiecesAreNotKept(t *testing.T) {
	want := librarySignature(t, small(5), sha256.Sum256([]byte("abcd")))
	given, _ := probe.RoomyPieces([]byte("ab"), []byte("cd"))
	s, e := sign.Sign(small(5), given...)
	probe.ScribblePieces(given, 0x55)
	is(t, "written over", s, e, want)
	s, e = sign.Sign(small(5), []byte("abcd"))
	is(t, "again", s, e, want)
}

// P2: Decode leaves its bytes, also where it refuses, and answers a signature of its own.
func TestDecodeMemory(t *testing.T) {
	l := [][]byte{nil, probe.Raw("30 06 02 01 80 02 01 01"), probe.Raw("30 03 02 01 01"), probe.Raw("31 00")}
	for _, c := range encodings {
		l = append(l, probe.Raw(c.bytes), probe.Raw(c.bytes)[1:])
	}
	for _, b := range l {
		given, left := probe.RoomyPieces(b)
		s, e := sign.Decode(given[0])
		if !left() {
			t.Errorf("Decode changes its argument, %x", b)
		}
		probe.ScribblePieces(given, 0x55)
		again, f := sign.Decode(b)
		if s != again || e != f {
			t.Errorf("Decode(%x): %s, error %d; again: %s, error %d", b, show(s), e, show(again), f)
		}
	}
}

// P2: Encode's answers are memory of their own, each.
func TestEncodeMemory(t *testing.T) {
	for _, c := range encodings {
		s := api.Signature{R: hexed(c.r), S: hexed(c.s)}
		one, two := sign.Encode(s), sign.Encode(s)
		probe.Scribble(one, 0x77)
		if three := sign.Encode(s); !bytes.Equal(two, probe.Raw(c.bytes)) || !bytes.Equal(three, two) {
			t.Errorf("an answer shares memory: %x, %x", two, three)
		}
		if s.R != hexed(c.r) || s.S != hexed(c.s) {
			t.Errorf("Encode changes its argument: %s", show(s))
		}
	}
}

// P2: what a range is told may be written over.
func TestTriesMemory(t *testing.T) {
	d, h := small(5), small(7)
	want := triesOf(d, h)
	seq := sign.Nonces(d, h)
	d, h = api.Digest{}, api.Digest{}
	i := 0
	for try := range seq {
		if try != want[i] {
			t.Fatalf("try %d: %x", i, try)
		}
		try = api.Digest{}
		i++
	}
	if got := all(seq); !slices.Equal(got, want) || d != h {
		t.Errorf("gone over again: %x", got)
	}
}

// P3: what is answered is the same each time, whatever was asked ahead of it; P5: no goroutine is left.
func TestNothingIsKept(t *testing.T) {
	before := runtime.NumGoroutine()
	text := []byte("sample")
	want := signed(t, hexed(rfcKey), text)
	q := public(t, hexed(rfcKey))
	for _, d := range append(keys(), noKeys()...) {
		sign.May(d)
		sign.Public(d)
		s, _ := sign.Sign(d, d[:])
		sign.Verify(q, s, d[:])
		for range sign.Nonces(d, d) {
			break
		}
		sign.Decode(d[:])
		sign.Decode(sign.Encode(s))
		s, e := sign.Sign(hexed(rfcKey), text)
		is(t, "again", s, e, want)
		takes(t, "again", true, q, s, text)
		if public(t, hexed(rfcKey)) != q {
			t.Error("another point")
		}
	}
	if after := runtime.NumGoroutine(); after > before {
		t.Errorf("%d goroutines, ahead of it %d", after, before)
	}
}

// P3: the same is told to several that ask at once.
func TestAtOnce(t *testing.T) {
	seq := sign.Nonces(small(5), small(7))
	want := signed(t, small(5), []byte("ab"))
	wantTries := all(seq)
	q := public(t, small(5))
	var group sync.WaitGroup
	for range 8 {
		group.Go(func() {
			s, e := sign.Sign(small(5), []byte("a"), []byte("b"))
			if e != api.OK || s != want || !sign.Verify(q, s, []byte("ab")) || !slices.Equal(all(seq), wantTries) {
				t.Errorf("%s, error %d", show(s), e)
			}
		})
	}
	group.Wait()
}

// P1: no bytes break Decode.
func TestAnyBytes(t *testing.T) {
	var draws probe.Draws
	for n := range 3000 {
		b := draws.Bytes(n % 90)
		alike(t, b)
		if len(b) > 1 {
			b[0], b[1] = 0x30, byte(len(b)-2)
			alike(t, b)
		}
	}
}
