package cert

import (
	"bytes"

	"chancery/api"
	"chancery/curve"
	"chancery/der"
	"chancery/num"
	"chancery/oid"
	"chancery/sign"
)

const (
	integerTag  = 0x02
	bitsTag     = 0x03
	objectTag   = 0x06
	sequenceTag = 0x30
	versionTag  = 0xa0
	extsTag     = 0xa3
)

// must gives up, unless a certificate may be so.
func must(may bool) {
	if !may {
		panic(api.ErrCert)
	}
}

// sure is bytes that a call answered; if it answered an error it gives up.
func sure(b []byte, wrong api.Errno) []byte {
	must(wrong == api.OK)
	return b
}

// caught is a face's error, by what it has recovered: nothing, if nothing inside gave up.
func caught(recovered any) api.Errno {
	if recovered != nil {
		return api.ErrCert
	}
	return api.OK
}

// exact is the value whose bytes these are; where there is none it gives up.
func exact[T any](b []byte, read func([]byte) T, write func(T) ([]byte, api.Errno)) T {
	// If these are a value's bytes they are those of the one that is read: so all that may be wrong in them shows by its bytes being others, and read needs to look at none of it.
	v := read(b)
	must(bytes.Equal(sure(write(v)), b))
	return v
}

// put is the bytes of an element. No error comes: all tags here are tags, and what may be is not too long.
func put(tag int, parts ...[]byte) []byte {
	b, _ := der.Put(nil, tag, parts...)
	return b
}

// putObject is the bytes of an object identifier. No error comes, since all arcs here are one's.
func putObject(arcs ...int) []byte {
	id, _ := oid.Encode(arcs)
	return put(objectTag, id)
}

// putBits is the bytes of a BIT STRING without unused bits, of which there may be any.
func putBits(bits []byte) []byte {
	content, _ := num.Bits(bits, 0)
	return put(bitsTag, content)
}

// algorithm is the bytes of that by which all is signed.
func algorithm() []byte { return put(sequenceTag, putObject(1, 2, 840, 10045, 4, 3, 2)) }

// inside is the content of the element that bytes are; nothing, if they are none.
func inside(b []byte) []byte {
	x, _ := der.One(b)
	return x.Content
}

// row is the bytes of the first elements of a content, one by one; of each that is missing it is nothing.
func row(content []byte, count int) [][]byte {
	l := make([][]byte, count)
	for i := range l {
		_, size, _ := der.Take(content)
		l[i], content = content[:size:size], content[size:]
	}
	return l
}

// insideBits is the bytes of the BIT STRING that an element is.
func insideBits(b []byte) []byte {
	bits, _, _ := num.ToBits(inside(b))
	return bits
}

// joined is a body and a signature.
type joined struct {
	body      []byte
	signature api.Signature
}

func (j joined) whole() ([]byte, api.Errno) { return Join(j.body, j.signature) }

func readJoined(b []byte) joined {
	l := row(inside(b), 3)
	s, _ := sign.Decode(insideBits(l[2]))
	return joined{body: l[0], signature: s}
}

func readPoint(b []byte) api.Point {
	p, _ := curve.Decode(insideBits(row(inside(b), 2)[1]))
	return p
}
