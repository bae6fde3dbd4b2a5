package name

import (
	"chancery/api"
	"chancery/der"
	"chancery/oid"
	"chancery/text"
)

// Types of attributes.
const (
	commonName   = 3
	serialNumber = 5
	country      = 6
	locality     = 7
	state        = 8
	organization = 10
	unit         = 11
)

const (
	objectTag   = 0x06
	sequenceTag = 0x30
	setTag      = 0x31

	utf8Kind      = 12
	printableKind = 19

	idArcs = 4 // arcs of a type's object identifier, 2 5 4 and the type
)

// mayBe tells whether an attribute may be. Each case goes on into the next one, since what is asked there is asked of its types too.
func mayBe(a api.Attr) bool {
	switch a.Type {
	case country:
		if !isCountry(a.Value) {
			return false
		}
		fallthrough
	case serialNumber:
		if !text.May(printableKind, a.Value) {
			return false
		}
		fallthrough
	case commonName, locality, state, organization, unit:
		return 0 < len(a.Value) && len(a.Value) <= api.MaxValue && text.May(utf8Kind, a.Value)
	}
	return false
}

func isCountry(s string) bool { return len(s) == 2 && isGreat(s[0]) && isGreat(s[1]) }

func isGreat(b byte) bool { return 'A' <= b && b <= 'Z' }

// shared is how many attributes at the beginning of two names are the same, one by one.
func shared(a, b api.Name) int {
	count := 0
pairs:
	for count < min(len(a), len(b)) {
		switch x, y := a[count], b[count]; {
		case x.Type != y.Type:
			break pairs
		case !text.Same(x.Value, y.Value):
			break pairs
		default:
			count++
		}
	}
	return count
}

// encoded is the bytes of an attribute that may be.
func encoded(a api.Attr) []byte {
	// No error comes: its type has an object identifier, and its Value a kind.
	id, _ := oid.Encode([]int{2, 5, 4, a.Type})
	kind, _ := text.Kind(a.Value)
	return put(setTag, put(sequenceTag, put(objectTag, id), put(kind, []byte(a.Value))))
}

// decoded is the attribute whose bytes an element has; where they are none's, any one, since Decode asks for the bytes again.
func decoded(x api.Element) api.Attr {
	pair, _ := der.One(x.Content)
	id, size, _ := der.Take(pair.Content)
	value, _ := der.One(pair.Content[size:])
	arcs, _ := oid.Decode(id.Content)
	if len(arcs) != idArcs {
		return api.Attr{}
	}
	return api.Attr{Type: arcs[idArcs-1], Value: string(value.Content)}
}

// put is the bytes of an element. No error comes: all tags here are tags, and a name's bytes are few.
func put(tag int, content ...[]byte) []byte {
	b, _ := der.Put(nil, tag, content...)
	return b
}
