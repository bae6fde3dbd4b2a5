package name_test

import (
	"bytes"
	"slices"
	"strings"
	"testing"

	"chancery/api"
	"chancery/name"
	"chancery/probe"
)

// The parts of a name that is right: other ones are put in their places.
var (
	rightId    = id("55 04 03")
	rightValue = element(0x13, []byte("a"))
	rightPair  = pair(rightId, rightValue)
)

// isRight fails unless bytes are those of the names that these parts make.
func isRight(t *testing.T, b []byte, count int) {
	t.Helper()
	if n, e := name.Decode(b); e != api.OK || !slices.Equal(n, slices.Repeat(api.Name{{Type: 3, Value: "a"}}, count)) {
		t.Errorf("Decode(%x): %s, error %d", b, show(n), e)
	}
}

// P12.2: bytes that end too soon, at each place, at each level: outside it is der's error.
func TestDecodeShort(t *testing.T) {
	noBytes(t, "nil", nil, api.ErrShort)
	noBytes(t, "none", []byte{}, api.ErrShort)
	for _, k := range known {
		b := probe.Raw(k.bytes)
		for end := range b {
			noBytes(t, "ends too soon", b[:end], api.ErrShort)
		}
	}
	isRight(t, whole(rightPair), 1)
	row := element(0x31, rightPair)
	for end := 1; end < len(row); end++ {
		noBytes(t, "the element 31 ends too soon", element(0x30, row[:end]), api.ErrName)
		noBytes(t, "the second one ends too soon", element(0x30, row, row[:end]), api.ErrName)
	}
	for end := range rightPair {
		noBytes(t, "the inner element 30 ends too soon", whole(rightPair[:end]), api.ErrName)
	}
	both := slices.Concat(rightId, rightValue)
	for end := range both {
		noBytes(t, "what is in it ends too soon", whole(pair(both[:end])), api.ErrName)
	}
}

// P12.2: bytes behind the element, at each level: outside it is der's error.
func TestDecodeRest(t *testing.T) {
	for _, rest := range [][]byte{{0}, {5, 0}, {0x30}, {0x30, 0}, {0x31, 0}, {0xff}, rightValue} {
		for _, k := range known {
			noBytes(t, "rest", append(probe.Raw(k.bytes), rest...), api.ErrRest)
		}
		noBytes(t, "in the outer element", element(0x30, element(0x31, rightPair), rest), api.ErrName)
		noBytes(t, "ahead in it", element(0x30, rest, element(0x31, rightPair)), api.ErrName)
		noBytes(t, "alone in it", element(0x30, rest), api.ErrName)
		noBytes(t, "in the element 31", whole(append(bytes.Clone(rightPair), rest...)), api.ErrName)
		noBytes(t, "in the inner element", whole(pair(rightId, rightValue, rest)), api.ErrName)
	}
}

// P12.2: each byte as the tag, at each level.
func TestDecodeTags(t *testing.T) {
	for x := range 256 {
		tag := byte(x)
		outer := api.ErrName
		if tag&31 == 31 {
			outer = api.ErrTag
		}
		both := slices.Concat(rightId, rightValue)
		for _, c := range []struct {
			what  string
			right byte
			b     []byte
			want  api.Errno
		}{
			{"the outer tag", 0x30, element(tag, element(0x31, rightPair)), outer},
			{"the tag of each attribute", 0x31, element(0x30, element(tag, rightPair)), api.ErrName},
			{"the tag in it", 0x30, whole(element(tag, both)), api.ErrName},
			{"the tag of the type", 0x06, whole(pair(element(tag, []byte{0x55, 4, 3}), rightValue)), api.ErrName},
			{"the tag of the Value", 0x13, whole(pair(rightId, element(tag, []byte("a")))), api.ErrName},
		} {
			if tag == c.right {
				isRight(t, c.b, 1)
			} else {
				noBytes(t, c.what, c.b, c.want)
			}
		}
		if tag != 0x30 {
			noBytes(t, "the tag of the name without attributes", element(tag), outer)
		}
	}
}

// P12.2: each byte as the tag of Values of each kind: it is taken where Kind says it alone.
func TestDecodeValueTags(t *testing.T) {
	for v, right := range map[string]byte{"a": 0x13, "DE": 0x13, "=,": 0x13, "@": 0x0c, "a@b": 0x0c, `\`: 0x0c, "\x00": 0x0c, "\u00e9": 0x0c} {
		for x := range 256 {
			b := whole(pair(rightId, element(byte(x), []byte(v))))
			if byte(x) != right {
				noBytes(t, "another tag", b, api.ErrName)
			} else if n, e := name.Decode(b); e != api.OK || !slices.Equal(n, api.Name{{Type: 3, Value: v}}) {
				t.Errorf("Decode(%x): %s, error %d", b, show(n), e)
			}
		}
	}
}

// P12.2: how many elements stand in each.
func TestDecodeCounts(t *testing.T) {
	isRight(t, whole(), 0)
	isRight(t, whole(rightPair, rightPair), 2)
	for what, b := range map[string][]byte{
		"no element 30 in an element 31":             whole(nil),
		"none in the first one":                      whole(nil, rightPair),
		"none in the last one":                       whole(rightPair, nil),
		"two elements 30 in an element 31":           whole(slices.Concat(rightPair, rightPair)),
		"three elements 30 in an element 31":         whole(slices.Concat(rightPair, rightPair, rightPair)),
		"no element in an element 30":                whole(pair()),
		"a type alone":                               whole(pair(rightId)),
		"a Value alone":                              whole(pair(rightValue)),
		"a type and two Values":                      whole(pair(rightId, rightValue, rightValue)),
		"two types and a Value":                      whole(pair(rightId, rightId, rightValue)),
		"a type, a Value and a type":                 whole(pair(rightId, rightValue, rightId)),
		"two types":                                  whole(pair(rightId, rightId)),
		"a Value, a type":                            whole(pair(rightValue, rightId)),
		"two attributes in one":                      whole(pair(rightId, rightValue, rightId, rightValue)),
		"no element 31":                              element(0x30, rightPair),
		"neither 31 nor 30":                          element(0x30, rightId, rightValue),
		"one element 31 more":                        whole(element(0x31, rightPair)),
		"one element 30 more":                        whole(pair(rightPair)),
		"a name in a name":                           element(0x30, whole(rightPair)),
		"an element 31 alone":                        element(0x31, rightPair),
		"an element 30 in an element 31 that is not": element(0x30, element(0x31), rightPair),
	} {
		noBytes(t, what, b, api.ErrName)
	}
}

// P12.2: what is no object identifier 2 5 4 and a type.
func TestDecodeIds(t *testing.T) {
	for _, k := range types {
		n := api.Name{{Type: k, Value: "DE"}}
		if got, e := name.Decode(whole(pair(element(6, []byte{0x55, 4, byte(k)}), element(0x13, []byte("DE"))))); e != api.OK || !slices.Equal(got, n) {
			t.Errorf("the type %d: %s, error %d", k, show(got), e)
		}
	}
	for _, digits := range []string{
		"", "55", "55 04", "04 03", "03", // fewer arcs: the last ones of 2 5 4 are none, 5, 4
		"55 04 03 00", "55 04 03 03", "55 04 03 81 00", "55 04 03 04 05", "00 55 04 03", "55 55 04 03", // more
		"54 04 03", "56 04 03", "05 04 03", "2d 04 03", "d5 04 03", "81 05 04 03", "55 03 03", "55 05 03", "55 1d 03", "55 1d 11", "55 84 04 03", // others
		"55 04 00", "55 04 01", "55 04 02", "55 04 04", "55 04 09", "55 04 0c", "55 04 2e", "55 04 7f", "55 04 81 00", "55 04 82 03", "55 04 83 03", "55 04 87 ff ff ff 7f", // of other types
		"55 04 80 03", "55 80 04 03", "80 55 04 03", "55 04 83", "55 84", "d5", "55 04 88 80 80 80 03", "55 04 90 80 80 80 03", "55 04 82 80 80 80 80 80 80 80 80 03", // no object identifiers
		"55 04 03 01 01 01 01 01 01 01 01 01 01 01 01 01 01 01 01", "55 04 01 01 01 01 01 01 01 01 01 01 01 01 01 01 01 01 03 01",
		"2a 86 48 86 f7 0d 01 09 01", "09 92 26 89 93 f2 2c 64 01 19", // a mail address's and a domain's, as others have them
	} {
		noBytes(t, digits, whole(pair(id(digits), rightValue)), api.ErrName)
		noBytes(t, digits, whole(pair(id(digits), element(0x13, []byte("DE")))), api.ErrName)
		noBytes(t, "behind another one", whole(rightPair, pair(id(digits), rightValue)), api.ErrName)
	}
	for x := range 256 {
		for y := range 256 {
			for at := range 3 {
				content := []byte{0x55, 4, 3}
				content[at] = byte(x)
				content[(at+1)%3] = byte(y)
				asLibrary(t, whole(pair(element(6, content), rightValue)))
			}
		}
	}
}

// P12.2: Values that may not be, with each tag that a Value may have.
func TestDecodeValues(t *testing.T) {
	for _, a := range wrongs() {
		if a.Type < 0 || a.Type > 127 || len(a.Value) > 1<<12 {
			continue // their bytes are told elsewhere, or are many
		}
		for _, tag := range []byte{0x0c, 0x13, 0x16, 0x14, 0x1e, 0x00} {
			b := whole(pair(element(6, []byte{0x55, 4, byte(a.Type)}), element(tag, []byte(a.Value))))
			noBytes(t, "no Value", b, api.ErrName)
		}
	}
	long := strings.Repeat("a", 64)
	b := whole(pair(rightId, element(0x13, []byte(long))))
	if n, e := name.Decode(b); e != api.OK || !slices.Equal(n, api.Name{{Type: 3, Value: long}}) {
		t.Errorf("a Value of 64 bytes: %s, error %d", show(n), e)
	}
	noBytes(t, "of one more", whole(pair(rightId, element(0x13, []byte(long+"a")))), api.ErrName)
}

// P12.2: lengths that are none, or not the shortest: outside it is der's error.
func TestDecodeLengths(t *testing.T) {
	for what, c := range map[string]struct {
		digits string
		want   api.Errno
	}{
		"outside":                   {"30 81 0c 31 0a 30 08 06 03 55 04 03 13 01 61", api.ErrLength},
		"outside, not told":         {"30 80 31 0a 30 08 06 03 55 04 03 13 01 61 00 00", api.ErrLength},
		"outside, of nothing":       {"30 81 00", api.ErrLength},
		"outside, too many":         {"30 84 00 00 00 0c 31 0a 30 08 06 03 55 04 03 13 01 61", api.ErrLength},
		"of the element 31":         {"30 0d 31 81 0a 30 08 06 03 55 04 03 13 01 61", api.ErrName},
		"of the element 31, none":   {"30 0e 31 80 30 08 06 03 55 04 03 13 01 61 00 00", api.ErrName},
		"of the inner element 30":   {"30 0d 31 0b 30 81 08 06 03 55 04 03 13 01 61", api.ErrName},
		"of the object identifier":  {"30 0d 31 0b 30 09 06 81 03 55 04 03 13 01 61", api.ErrName},
		"of the Value":              {"30 0d 31 0b 30 09 06 03 55 04 03 13 81 01 61", api.ErrName},
		"of the Value, two bytes":   {"30 0e 31 0c 30 0a 06 03 55 04 03 13 82 00 01 61", api.ErrName},
		"of the Value, longer":      {"30 0c 31 0a 30 08 06 03 55 04 03 13 02 61", api.ErrName},
		"of the element 31, longer": {"30 0c 31 0b 30 08 06 03 55 04 03 13 01 61", api.ErrName},
	} {
		noBytes(t, what, probe.Raw(c.digits), c.want)
	}
}

// P12.2: as many attributes as may be, one more, and very many.
func TestDecodeMany(t *testing.T) {
	for count := range 40 {
		b := whole(slices.Repeat([][]byte{rightPair}, count)...)
		if count <= api.MaxAttrs {
			isRight(t, b, count)
		} else {
			noBytes(t, "too many", b, api.ErrName)
		}
	}
	for _, one := range [][]byte{{0x31, 0}, {0x05, 0}, element(0x31, rightPair), element(0x31, pair()), {0x31}, {0}} {
		b := bytes.Repeat(one, 1<<20/len(one))
		b = slices.Concat([]byte{0x30, 0x83, byte(len(b) >> 16), byte(len(b) >> 8), byte(len(b))}, b)
		noBytes(t, "very many", b, api.ErrName)
		noBytes(t, "very many, and one more", append(b, 0), api.ErrRest)
		noBytes(t, "very many, and one fewer", b[:len(b)-1], api.ErrShort)
	}
}

// P12.2, P12.6: what is a name's bytes, with one byte another one, or with one more or fewer: by the library.
func TestDecodeTurned(t *testing.T) {
	for _, k := range known {
		b := probe.Raw(k.bytes)
		if len(b) > 100 {
			continue
		}
		for at, was := range b {
			for x := range 256 {
				b[at] = byte(x)
				asLibrary(t, b)
			}
			b[at] = was
			asLibrary(t, slices.Delete(bytes.Clone(b), at, at+1))
			asLibrary(t, slices.Insert(bytes.Clone(b), at, was))
			asLibrary(t, slices.Insert(bytes.Clone(b), at, 0))
		}
	}
}

// P12.2, P12.6: all contents of few bytes, within a name's bytes, at each level: by the library.
func TestDecodeOfFew(t *testing.T) {
	taken := 0
	for b := range probe.Short([]byte{0x00, 0x01, 0x03, 0x06, 0x0c, 0x13, 0x30, 0x31, 0x61}, 4) {
		for _, c := range [][]byte{b, element(0x30, b), whole(b), whole(pair(b)), whole(pair(rightId, b)), whole(pair(b, rightValue)), whole(rightPair, pair(rightId, b))} {
			if asLibrary(t, c) {
				taken++
			}
		}
	}
	if taken < 10 {
		t.Errorf("only %d are taken", taken)
	}
}

// P1, P12.2: no bytes break it.
func TestDecodeOfAny(t *testing.T) {
	var draws probe.Draws
	for i := range 3000 {
		b := draws.Bytes(i % 90)
		asLibrary(t, b)
		asLibrary(t, element(0x30, b))
		asLibrary(t, whole(b))
		asLibrary(t, whole(pair(b)))
		asLibrary(t, whole(pair(rightId, element(0x0c, b))))
		asLibrary(t, whole(pair(element(0x06, b), rightValue)))
	}
}
