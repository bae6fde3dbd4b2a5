package sha_test

import (
	"bytes"
	"runtime"
	"testing"

	"chancery/api"
	"chancery/probe"
	"chancery/sha"
)

// P2: neither pieces nor keys are changed, spare room too.
func TestArgumentsAreLeft(t *testing.T) {
	for _, n := range lengths {
		for _, k := range keyLengths {
			given, left := probe.RoomyPieces(text(k), text(n), nil, text(n), text(3))
			key, pieces := given[0], given[1:]
			sha.Sum(pieces...)
			sha.Mac(key, pieces...)
			h, keyed := sha.New(), sha.Key(key)
			for range 2 {
				write(t, h, pieces...)
				write(t, keyed, pieces...)
				h.Sum()
				keyed.Sum()
				h.Copy()
			}
			(*sha.Hash)(nil).Write(pieces...)
			new(sha.Keyed).Write(pieces...)
			if !left() {
				t.Errorf("a key of %d bytes or a piece of %d is changed", k, n)
			}
		}
	}
}

// P2: pieces that are changed behind a Write change no digest.
func TestPiecesAreNotKept(t *testing.T) {
	for _, m := range makers() {
		for _, n := range lengths {
			h := m.make()
			var b []byte
			for range 3 {
				given, _ := probe.RoomyPieces(text(n), text(5))
				b = append(b, bytes.Join(given, nil)...)
				write(t, h, given...)
				probe.ScribblePieces(given, 0x55)
				m.tells(t, h, b)
			}
		}
	}
}

// P2: a key that is changed behind Key changes no digest.
func TestKeyIsNotKept(t *testing.T) {
	for _, n := range keyLengths {
		key, whole := probe.Roomy(text(n))
		k := sha.Key(key)
		probe.Scribble(whole, 0x55)
		is(t, "of no bytes", k.Sum(), libMac(text(n)))
		write(t, k, []byte("abc"))
		probe.Scribble(whole, 0x77)
		is(t, "abc", k.Sum(), libMac(text(n), []byte("abc")))
	}
}

// P2: a key and pieces that lie in one row, over each other.
func TestOverEachOther(t *testing.T) {
	b := text(200)
	for _, i := range []int{0, 1, 60, 64, 65, 100, 200} {
		for _, j := range []int{0, 1, 63, 64, 65, 200} {
			is(t, "Mac", sha.Mac(b[:i], b[j:], b, b[:j]), libMac(b[:i], b[j:], b, b[:j]))
			is(t, "Sum", sha.Sum(b[:i], b[j:], b), libSum(b[:i], b[j:], b))
		}
	}
	if !bytes.Equal(b, text(200)) {
		t.Error("they are changed")
	}
}

// P2: what is answered may be written over, and written back.
func TestAnswersAreNew(t *testing.T) {
	for _, m := range makers() {
		h := m.make()
		write(t, h, text(70))
		one, two := h.Sum(), h.Sum()
		probe.Scribble(one[:], 0x77)
		is(t, "another answer", two, m.want(text(70)))
		m.tells(t, h, text(70))
		write(t, h, two[:])
		probe.Scribble(two[:], 0x77)
		d := m.want(text(70))
		m.tells(t, h, append(text(70), d[:]...))
	}
}

// P2: a copy is memory of its own, also where what it was made of is gone over.
func TestCopyIsNew(t *testing.T) {
	h := sha.New()
	write(t, h, text(70))
	c := h.Copy()
	*h = sha.Hash{}
	is(t, "the copy", c.Sum(), libSum(text(70)))
	if e := h.Write(nil); e != api.ErrNil {
		t.Errorf("what was gone over: error %d", e)
	}
	if c.Copy() == c.Copy() {
		t.Error("two copies are one")
	}
	if sha.New() == sha.New() || sha.Key(nil) == sha.Key(nil) {
		t.Error("two that were made are one")
	}
}

// P3, P5: the same is told again, behind errors too, and no goroutine is left.
func TestNothingIsKept(t *testing.T) {
	before := runtime.NumGoroutine()
	for range 20 {
		is(t, "Sum", sha.Sum(text(100)), libSum(text(100)))
		is(t, "Mac", sha.Mac(text(70), text(100)), libMac(text(70), text(100)))
		for _, m := range makers() {
			h := m.make()
			new(sha.Hash).Write(text(9))
			write(t, h, text(100))
			m.tells(t, h, text(100))
		}
	}
	if after := runtime.NumGoroutine(); after > before {
		t.Errorf("%d goroutines, ahead of it %d", after, before)
	}
}
