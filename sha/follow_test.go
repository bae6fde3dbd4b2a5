package sha_test

import (
	"slices"
	"testing"

	"chancery/api"
	"chancery/probe"
	"chancery/sha"
)

// same fails unless pieces have the digest of the text, by Sum, in one Write and in many.
func same(t *testing.T, pieces [][]byte, want api.Digest) {
	t.Helper()
	is(t, "Sum", sha.Sum(pieces...), want)
	inOne, inMany := sha.New(), sha.New()
	write(t, inOne, pieces...)
	for _, b := range pieces {
		write(t, inMany, b)
	}
	is(t, "one Write", inOne.Sum(), want)
	is(t, "many Writes", inMany.Sum(), want)
	if inOne.Len() != inMany.Len() {
		t.Fatalf("Len %d and %d", inOne.Len(), inMany.Len())
	}
}

// sameKeyed fails unless pieces have the keyed digest of the text, likewise.
func sameKeyed(t *testing.T, key []byte, pieces [][]byte, want api.Digest) {
	t.Helper()
	is(t, "Mac", sha.Mac(key, pieces...), want)
	inOne, inMany := sha.Key(key), sha.Key(key)
	write(t, inOne, pieces...)
	for _, b := range pieces {
		write(t, inMany, b)
	}
	is(t, "one Write", inOne.Sum(), want)
	is(t, "many Writes", inMany.Sum(), want)
}

// P8.5: cut at every place, into two and into three.
func TestCut(t *testing.T) {
	for _, n := range []int{0, 1, 2, 55, 56, 57, 63, 64, 65, 119, 120, 127, 128, 129, 150} {
		b := text(n)
		want := libSum(b)
		for i := range n + 1 {
			same(t, probe.Cut(b, i), want)
			for j := i; j <= n; j++ {
				same(t, probe.Cut(b, i, j), want)
			}
		}
	}
}

// P8.5: likewise, with keys.
func TestCutKeyed(t *testing.T) {
	for _, n := range []int{0, 20, 64, 65} {
		key := text(n)
		for _, n := range []int{0, 1, 56, 64, 65, 128, 129} {
			b := text(n)
			want := libMac(key, b)
			for i := range n + 1 {
				sameKeyed(t, key, probe.Cut(b, i), want)
				for j := i; j <= n; j += 3 {
					sameKeyed(t, key, probe.Cut(b, i, j), want)
				}
			}
		}
	}
}

// P8.5: cut into many, of lengths that look like chance, empty ones among them; asked in between.
func TestCutIntoMany(t *testing.T) {
	var d probe.Draws
	for range 300 {
		b := d.Bytes(int(d.Next() % 600))
		var at []int
		for range d.Next() % 20 {
			at = append(at, int(d.Next()%uint64(len(b)+1)))
		}
		slices.Sort(at)
		same(t, probe.Cut(b, at...), libSum(b))
		key := d.Bytes(int(d.Next() % 130))
		sameKeyed(t, key, probe.Cut(b, at...), libMac(key, b))
		h := sha.New()
		for _, piece := range probe.Cut(b, at...) {
			write(t, h, piece)
			h.Sum()
			h = h.Copy()
		}
		is(t, "copies", h.Sum(), libSum(b))
	}
}

// alike fails unless two keys have the same keyed digests.
func alike(t *testing.T, one, other []byte) {
	t.Helper()
	for _, n := range lengths {
		b := text(n)
		is(t, "Mac", sha.Mac(one, b), sha.Mac(other, b))
		j, k := sha.Key(one), sha.Key(other)
		write(t, j, b)
		write(t, k, b)
		is(t, "Keyed", j.Sum(), k.Sum())
	}
}

// unlike fails if two keys have the same keyed digest.
func unlike(t *testing.T, one, other []byte) {
	t.Helper()
	if sha.Mac(one, []byte("abc")) == sha.Mac(other, []byte("abc")) {
		t.Errorf("keys %x and %x are alike", one, other)
	}
}

// P8.5: a key of more than 64 bytes, and its digest; one of 64 bytes is itself.
func TestLongKeys(t *testing.T) {
	for n := 65; n < 200; n++ {
		for _, key := range texts(n) {
			d := sha.Sum(key)
			alike(t, key, d[:])
		}
	}
	for _, n := range []int{0, 1, 32, 63, 64} {
		d := sha.Sum(text(n))
		unlike(t, text(n), d[:])
	}
}

// P8.5: a key of less than 64 bytes, and bytes 0 behind it, up to 64; one more is another key, and so is one with bytes 0 ahead.
func TestShortKeys(t *testing.T) {
	for n := range 64 {
		key := append(text(n), 5)[:n]
		for more := 1; n+more <= 64; more += 1 + more/3 {
			alike(t, key, append(slices.Clone(key), make([]byte, more)...))
		}
		alike(t, key, append(slices.Clone(key), make([]byte, 64-n)...))
		unlike(t, key, append(slices.Clone(key), make([]byte, 65-n)...))
		if n > 0 {
			unlike(t, key, append([]byte{0}, key...))
		}
	}
}
