package sha_test

import (
	"testing"

	"chancery/api"
	"chancery/sha"
)

// unmade are nil, and what no call made, of both kinds; one of them has a Hash that a call made, but is no Keyed that a call made.
func unmade() map[string]taker {
	return map[string]taker{
		"nil Hash":            (*sha.Hash)(nil),
		"Hash of no call":     &sha.Hash{},
		"nil Keyed":           (*sha.Keyed)(nil),
		"Keyed of no call":    &sha.Keyed{},
		"Keyed with a Hash":   &sha.Keyed{Hash: *sha.New()},
		"Keyed without one":   withoutHash(),
		"Hash of a Keyed":     &new(sha.Keyed).Hash,
		"copy of a zero Hash": zeroCopy(),
	}
}

// withoutHash is a Keyed whose Hash was taken from it.
func withoutHash() *sha.Keyed {
	k := sha.Key([]byte("Jefe"))
	k.Hash = sha.Hash{}
	return k
}

// zeroCopy is a Hash that was copied as a value, from one that no call made.
func zeroCopy() *sha.Hash {
	var h sha.Hash
	h.Write([]byte("abc"))
	other := h
	return &other
}

// nothing fails unless a taker answers as one that no call made.
func nothing(t *testing.T, name string, h taker) {
	t.Helper()
	if d := h.Sum(); d != (api.Digest{}) {
		t.Errorf("%s: Sum: %x", name, d)
	}
	if n := h.Len(); n != 0 {
		t.Errorf("%s: Len: %d", name, n)
	}
	if c := h.Copy(); c != nil {
		t.Errorf("%s: Copy: %v", name, c)
	}
}

// P8.4: at every call, behind Writes that are refused too.
func TestNothing(t *testing.T) {
	for name, h := range unmade() {
		nothing(t, name, h)
		for _, b := range [][][]byte{nil, {}, {nil}, {{}}, {[]byte("abc")}, {text(63)}, {text(64)}, {text(65), nil, text(128)}} {
			if e := h.Write(b...); e != api.ErrNil {
				t.Errorf("%s: Write of %d pieces: error %d", name, len(b), e)
			}
			nothing(t, name, h)
		}
	}
}

// P8.4: in each order, since what is asked first must change nothing either.
func TestNothingInEachOrder(t *testing.T) {
	asks := []func(h taker) bool{
		func(h taker) bool { return h.Write([]byte("abc")) == api.ErrNil },
		func(h taker) bool { return h.Sum() == api.Digest{} },
		func(h taker) bool { return h.Len() == 0 },
		func(h taker) bool { return h.Copy() == nil },
	}
	for i := range asks {
		for j := range asks {
			for name, h := range unmade() {
				if !asks[i](h) || !asks[j](h) || !asks[i](h) {
					t.Errorf("%s: asks %d and %d", name, i, j)
				}
			}
		}
	}
}

// P8.4: a copy of what no call made is nil, of which the same holds.
func TestCopyOfNothing(t *testing.T) {
	for name, h := range unmade() {
		c := h.Copy()
		if e := c.Write([]byte("abc")); e != api.ErrNil {
			t.Errorf("%s: error %d", name, e)
		}
		nothing(t, name, c)
	}
}

// P8.4: a refused Write leaves the others as they were.
func TestOthersAreLeft(t *testing.T) {
	for _, m := range makers() {
		h := m.make()
		write(t, h, text(70))
		for _, none := range unmade() {
			none.Write(text(100))
			none.Sum()
		}
		m.tells(t, h, text(70))
	}
}
