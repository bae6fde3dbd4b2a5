package ext

import (
	"bytes"

	"chancery/api"
	"chancery/der"
	"chancery/num"
	"chancery/oid"
)

const (
	booleanTag    = 0x01
	integerTag    = 0x02
	bitsTag       = 0x03
	octetsTag     = 0x04
	objectTag     = 0x06
	enumeratedTag = 0x0a
	sequenceTag   = 0x30
	keyTag        = 0x80
	permittedTag  = 0xa0
	excludedTag   = 0xa1
)

// must gives up, unless a value may be.
func must(may bool) {
	if !may {
		panic(api.ErrExt)
	}
}

// caught is a face's error, by what it has recovered: nothing, if nothing inside gave up.
func caught(recovered any) api.Errno {
	if recovered != nil {
		return api.ErrExt
	}
	return api.OK
}

// exact is the value whose bytes these are; where there is none it gives up.
func exact[T any](b []byte, read func([]byte) T, write func(T) []byte) T {
	// If these are a value's bytes they are those of the one that is read: so all that may be wrong in them shows by its bytes being others, and read needs to look at none of it.
	v := read(b)
	must(bytes.Equal(write(v), b))
	return v
}

// first is the first one of a list that is what is looked for, and whether there is one.
func first[T any](l []T, is func(T) bool) (T, bool) {
	for _, x := range l {
		if is(x) {
			return x, true
		}
	}
	var none T
	return none, false
}

// put is the bytes of an element. No error comes: all tags here are tags, and what may be has few bytes.
func put(tag int, parts ...[]byte) []byte {
	b, _ := der.Put(nil, tag, parts...)
	return b
}

// putEach is the bytes of an element in which there are those of each one of a list.
func putEach[T any](tag int, l []T, write func(T) []byte) []byte {
	var parts [][]byte
	for _, x := range l {
		parts = append(parts, write(x))
	}
	return put(tag, parts...)
}

// putTrue is the bytes of a truth value; false has none.
func putTrue(v bool) []byte {
	if !v {
		return nil
	}
	return put(booleanTag, num.Bool(true))
}

// putInteger is the bytes of an element with an integer.
func putInteger(tag, n int) []byte { return put(tag, num.Int(int64(n))) }

// putObject is the bytes of an object identifier.
func putObject(arcs ...int) []byte {
	// No error comes, since all arcs here are one's.
	id, _ := oid.Encode(arcs)
	return put(objectTag, id)
}

// inside is the content of the element that bytes are; nothing, if they are none.
func inside(b []byte) []byte {
	x, _ := der.One(b)
	return x.Content
}

// readEach is what is read of each element in a content; where there are more than may be it gives up, however many they are.
func readEach[T any](content []byte, most int, read func(api.Element) T) []T {
	var l []T
	for _, x := range der.Each(content) {
		must(len(l) < most)
		l = append(l, read(x))
	}
	return l
}

// integer is that of a content; 0, if it is none's, or too great.
func integer(content []byte) int {
	n, _ := num.ToInt(content)
	return int(n)
}

// lastArc is that of an object identifier's content; 0, if it is none's.
func lastArc(content []byte) int {
	arcs, wrong := oid.Decode(content)
	if wrong != api.OK {
		return 0
	}
	return arcs[len(arcs)-1]
}
