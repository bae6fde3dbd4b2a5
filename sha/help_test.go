package sha_test

import (
	"bytes"
	"crypto/hmac"
	"crypto/sha256"
	"testing"

	"chancery/api"
	"chancery/probe"
	"chancery/sha"
)

// lengths are those of texts and pieces at which something changes: around a block's end, and around the place from which the padding needs one block more.
var lengths = []int{0, 1, 2, 54, 55, 56, 57, 62, 63, 64, 65, 66, 118, 119, 120, 121, 126, 127, 128, 129, 191, 192, 193, 1000}

// keyLengths are those of keys at which something changes.
var keyLengths = []int{0, 1, 2, 31, 32, 33, 62, 63, 64, 65, 66, 127, 128, 129, 1000}

// libSum is the library's digest.
func libSum(b ...[]byte) api.Digest { return sha256.Sum256(bytes.Join(b, nil)) }

// libMac is the library's keyed digest.
func libMac(key []byte, b ...[]byte) api.Digest {
	h := hmac.New(sha256.New, key)
	h.Write(bytes.Join(b, nil))
	return api.Digest(h.Sum(nil))
}

// digest is that of digits to the base 16.
func digest(digits string) api.Digest { return api.Digest(probe.Raw(digits)) }

// text is n bytes that look like chance, the same each time.
func text(n int) []byte {
	var d probe.Draws
	return d.Bytes(n)
}

// texts are of n bytes each: of those at the ends, and of others.
func texts(n int) [][]byte {
	return [][]byte{make([]byte, n), bytes.Repeat([]byte{255}, n), bytes.Repeat([]byte{128}, n), text(n)}
}

// is fails unless a digest is this one.
func is(t *testing.T, what string, got, want api.Digest) {
	t.Helper()
	if got != want {
		t.Fatalf("%s: %x; want %x", what, got, want)
	}
}

// taker is what New and Key make.
type taker interface {
	Write(b ...[]byte) api.Errno
	Sum() api.Digest
	Len() int
	Copy() *sha.Hash
}

// maker makes a taker, and knows by the library what it must tell.
type maker struct {
	name string
	make func() taker
	want func(b ...[]byte) api.Digest
}

// makers are of Hashes, and of Keyeds with keys of the lengths at which something changes.
func makers() []maker {
	l := []maker{{"New", func() taker { return sha.New() }, libSum}}
	for _, n := range keyLengths {
		key := text(n)
		l = append(l, maker{"Key", func() taker { return sha.Key(key) }, func(b ...[]byte) api.Digest { return libMac(key, b...) }})
	}
	return l
}

// write fails unless the pieces are taken.
func write(t *testing.T, to taker, b ...[]byte) {
	t.Helper()
	if e := to.Write(b...); e != api.OK {
		t.Fatalf("Write: error %d", e)
	}
}

// tells fails unless a taker says just what it must of these bytes.
func (m maker) tells(t *testing.T, of taker, b []byte) {
	t.Helper()
	if of.Len() != len(b) {
		t.Fatalf("%s: Len %d; want %d", m.name, of.Len(), len(b))
	}
	is(t, m.name+": Sum", of.Sum(), m.want(b))
}
