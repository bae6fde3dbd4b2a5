package request

import (
	"chancery/api"
	"chancery/cert"
	"chancery/der"
	"chancery/ext"
	"chancery/name"
	"chancery/num"
	"chancery/oid"
)

const (
	integerTag  = 0x02
	objectTag   = 0x06
	sequenceTag = 0x30
	setTag      = 0x31
	askedTag    = 0xa0
)

const version = 0 // the number by which the first version goes

// put is the bytes of an element. No error comes: all tags here are tags, and what may be is not too long.
func put(tag int, parts ...[]byte) []byte {
	b, _ := der.Put(nil, tag, parts...)
	return b
}

// writeBody is the body of a request, if it may be.
func writeBody(r api.Request) (b []byte, may bool) {
	subject, wrongSubject := name.Encode(r.Subject)
	key, wrongKey := cert.Key(r.Key)
	asked, wrongExts := writeAsked(r.Exts)
	if wrongSubject != api.OK || wrongKey != api.OK || wrongExts != api.OK {
		return nil, false
	}
	return put(sequenceTag, put(integerTag, num.Int(version)), subject, key, put(askedTag, asked)), true
}

// writeAsked is the attribute by which extensions are asked for; nothing, if there are none.
func writeAsked(l []api.Ext) ([]byte, api.Errno) {
	if len(l) == 0 {
		return nil, api.OK
	}
	exts, wrong := ext.Encode(l)
	return put(sequenceTag, asking(), put(setTag, exts)), wrong
}

// asking is the bytes of the identifier that says that extensions are asked for. No error comes, since all arcs here are one's.
func asking() []byte {
	id, _ := oid.Encode([]int{1, 2, 840, 113549, 1, 9, 14})
	return put(objectTag, id)
}

// readBody is the request whose body this is; if there is none it is any one.
func readBody(b []byte) api.Request {
	next := row(inside(b))
	next() // the version, which is the same in all
	subject, _ := name.Decode(next())
	key, _ := cert.ToKey(next())
	return api.Request{Subject: subject, Key: key, Exts: readAsked(inside(next()))}
}

func readAsked(b []byte) []api.Ext {
	next := row(inside(b))
	next() // the identifier, which is the same in all
	exts, _ := ext.Decode(inside(next()))
	return exts
}

// row is a function that takes the bytes of one element of a content after the other; nothing, when none is left.
func row(content []byte) (next func() []byte) {
	return func() []byte {
		_, size, _ := der.Take(content)
		b := content[:size]
		content = content[size:]
		return b
	}
}

// inside is the content of the element that bytes are; nothing, if they are none.
func inside(b []byte) []byte {
	x, _ := der.One(b)
	return x.Content
}
