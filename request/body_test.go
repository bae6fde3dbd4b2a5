package request_test

import (
	"bytes"
	"encoding/hex"
	"slices"
	"strings"
	"testing"

	"chancery/api"
	"chancery/cert"
	"chancery/curve"
	"chancery/name"
	"chancery/probe"
	"chancery/request"
	"chancery/sign"
)

// Bytes that are written out.
const (
	ecdsaWithSHA256 = "30 0a 06 08 2a 86 48 ce 3d 04 03 02"
	asking          = "06 09 2a 86 48 86 f7 0d 01 09 0e"
	bits            = "03 0a 00 30 07 02 01 01 02 02 00 80"
	nameA           = "30 0c 31 0a 30 08 06 03 55 04 03 13 01 61"
	keyHead         = "30 59 30 13 06 07 2a 86 48 ce 3d 02 01 06 08 2a 86 48 ce 3d 03 01 07 03 42 00 04"
	fivesKey        = keyHead + "51590b7a 515140d2 d784c856 08668fdf ef8c82fd 1f5be524 21554a0d c3d033ed e0c17da8 904a727d 8ae1bf36 bf8a7926 0d012f00 d4d80888 d1d0bb44 fda16da4"
	basesKey        = keyHead + "6b17d1f2 e12c4247 f8bce6e5 63a440f2 77037d81 2deb33a0 f4a13945 d898c296 4fe342e2 fe1a7f9b 8ee7eb4a 7c0f9e16 2bce3357 6b315ece cbb64068 37bf51f5"
	flatsKey        = keyHead + "09e78d4e f60d05f7 50f66362 09092bc4 3cbdd6b4 7e11a9de 20a9feb2 a50bb96c 00000000 00000000 00000000 00000000 00000000 00000000 00000000 00000001"
)

// known are requests with their bodies, and their bytes by the key 5, written out.
var known = []struct {
	r                     api.Request
	body, head, signature string
}{
	{
		api.Request{Subject: api.Name{{Type: 3, Value: "a"}}, Key: sure(sign.Public(api.Digest{31: 5})), Exts: []api.Ext{{Id: 17, Value: []byte{0x30, 0}}}},
		"30 81 8a 02 01 00" + nameA + fivesKey + "a0 1c 30 1a" + asking + "31 0d 30 0b 30 09 06 03 55 1d 11 04 02 30 00", "30 81 e3",
		"03 48 00 30 45 02 20 77799cdb aeb4ab53 64f65c5f b37fa692 81a85dd6 670ea7e2 d3871ef7 0b270912 02 21 00 def085bf b9b829c5 5263bcac 030628f9 4e385bb9 5b4c82a2 73934b8a 469407b0",
	},
	{
		api.Request{Key: curve.Base()},
		"30 62 02 01 00 30 00" + basesKey + "a0 00", "30 81 b9",
		"03 47 00 30 44 02 20 13caca23 4b4bf93e 806c0c0c 7201aa39 54ef7ec8 45b79073 96cc12d7 5da4e246 02 20 51d4db52 608d705e 2ab83678 42b93771 45969a65 3a2e3f7f 48ef7bb8 2bfdb42b",
	},
	{
		api.Request{Subject: api.Name{{Type: 6, Value: "DE"}, {Type: 3, Value: "\u00e9"}}, Key: probe.FlatPoint(), Exts: []api.Ext{{Id: 0}, {Id: 127, Critical: true, Value: []byte("x")}}},
		"30 81 a3 02 01 00 30 1a 31 0b 30 09 06 03 55 04 06 13 02 44 45 31 0b 30 09 06 03 55 04 03 0c 02 c3 a9" + flatsKey +
			"a0 27 30 25" + asking + "31 18 30 16 30 07 06 03 55 1d 00 04 00 30 0b 06 03 55 1d 7f 01 01 ff 04 01 78", "30 81 fc",
		"03 48 00 30 45 02 21 00 c53957d0 2e16a5dd c7531894 85055789 d0fd73d4 9f15dc18 83370f14 f666d81f 02 20 18266c7a 581a005f 7011ac1f ca495373 257f550e b475791e dc4e5b8a 3f9e1be0",
	},
}

// has fails unless a request has this body, which is read as it.
func has(t *testing.T, r api.Request, b []byte) {
	t.Helper()
	if got, e := request.Body(r); e != api.OK || !bytes.Equal(got, b) {
		t.Fatalf("Body(%.600s): %.600x, error %d; want %.600x", show(r), got, e, b)
	}
	if got, e := request.ToBody(b); e != api.OK || !same(got, r) {
		t.Fatalf("ToBody(%.600x): %.600s, error %d; want %.600s", b, show(got), e, show(r))
	}
}

// P17.1: bodies that are written out.
func TestKnownBodies(t *testing.T) {
	for _, c := range known {
		has(t, c.r, raw(c.body))
	}
}

// P17.1: requests of each sort that may be, as the library writes them.
func TestBodies(t *testing.T) {
	for _, r := range goods() {
		has(t, r, bodyBytes(r))
	}
	r := but(func(r *api.Request) { r.Subject, r.Exts = probe.Attrs(16), probe.LongExts() })
	has(t, r, bodyBytes(r))
}

// P17.1: contents around one another, whose lengths begin to take a byte more.
func TestBodyLengths(t *testing.T) {
	heads := map[byte]int{}
	for _, span := range [][2]int{{0, 300}, {65100, 65536}} {
		for n := span[0]; n <= span[1]; n++ {
			r := but(func(r *api.Request) { r.Exts = []api.Ext{{Id: 1, Value: make([]byte, n)}} })
			b := bodyBytes(r)
			has(t, r, b)
			heads[b[1]]++
		}
	}
	short := bodyBytes(api.Request{Key: probe.Base()})
	if heads[short[1]]++; short[1] >= 0x80 || len(heads) != 4 {
		t.Errorf("lengths that begin with %v", heads)
	}
}

// parted is a body in its parts, each written out.
func parted() []string {
	return []string{"02 01 00", nameA, fivesKey, "a0 1c 30 1a" + asking + "31 0d 30 0b 30 09 06 03 55 1d 11 04 02 30 00"}
}

// Places of the parts.
const (
	atVersion = iota
	atSubject
	atKey
	atExts
)

// of is a body of parts.
func of(parts []string) []byte { return probe.Put(0x30, raw(strings.Join(parts, " "))) }

// with is a body with another part.
func with(place int, part string) []byte {
	l := parted()
	l[place] = part
	return of(l)
}

// noBody fails unless this is no request's body, alone and joined.
func noBody(t *testing.T, what string, b []byte) {
	t.Helper()
	bodyReader().None(t, what, b)
	for _, f := range []probe.Face{requestReader(), checkReader()} {
		f.None(t, what, probe.Put(0x30, b, raw(ecdsaWithSHA256), raw(bits)))
	}
}

// P17.1, P17.3: a part that is missing, that stands there twice, that stands elsewhere, that is empty.
func TestToBodyParts(t *testing.T) {
	r := bodyReader()
	has(t, plain(), of(parted()))
	for i, part := range parted() {
		noBody(t, "a part missing", of(slices.Delete(parted(), i, i+1)))
		noBody(t, "a part twice", of(slices.Insert(parted(), i, part)))
		noBody(t, "a part once more at the end", of(append(parted(), part)))
		noBody(t, "a part with something behind", with(i, part+"05 00"))
		noBody(t, "something ahead of a part", with(i, "05 00"+part))
		noBody(t, "a part within another one", with(i, hex.EncodeToString(probe.Put(raw(part)[0], raw(part)))))
		noBody(t, "parts missing at the end", of(parted()[:i]))
		if got := r.AsShould(t, with(i, part[:2]+" 00")); got != (i == atSubject || i == atExts) { // a name may be of no attributes, and there may be no extensions
			t.Errorf("the part %d without what is in it: %t", i, got)
		}
		for j := range i {
			l := parted()
			l[i], l[j] = l[j], l[i]
			noBody(t, "parts changed over", of(l))
		}
	}
	noBody(t, "no part", of(nil))
	noBody(t, "within another one", probe.Put(0x30, of(parted())))
	for _, tag := range []byte{0x31, 0x10, 0x04, 0xa0, 0xb0, 0x70} {
		noBody(t, "another tag", probe.Put(tag, raw(strings.Join(parted(), " "))))
	}
}

// P17.1, P17.3: another number ahead, and none.
func TestToBodyVersion(t *testing.T) {
	r := bodyReader()
	for n := range 256 {
		b := with(atVersion, hex.EncodeToString([]byte{2, 1, byte(n)}))
		if got := r.AsShould(t, b); got != (n == 0) {
			t.Errorf("the version %d: %t", n, got)
		}
	}
	for _, version := range []string{"", "05 00", "02 00", "02 02 00 00", "02 01 00 02 01 00", "0a 01 00", "82 01 00", "22 01 00", "02 81 01 00", "a0 03 02 01 00", "30 03 02 01 00", "02 01 02", "02 01 ff"} {
		noBody(t, "another version", with(atVersion, version))
	}
}

// P17.1, P17.3: subjects, by their bytes.
func TestToBodySubject(t *testing.T) {
	for _, n := range probe.Names() {
		has(t, but(func(r *api.Request) { r.Subject = n }), with(atSubject, hex.EncodeToString(sure(name.Encode(n)))))
	}
	attribute := raw(nameA)[2:]
	for what, b := range map[string][]byte{
		"no element":          nil,
		"another tag":         {0x31, 0},
		"17 attributes":       probe.Put(0x30, bytes.Repeat(attribute, 17)),
		"many attributes":     probe.Put(0x30, bytes.Repeat(attribute, 1000)),
		"no attribute":        raw("30 02 31 00"),
		"an attribute's half": raw("30 09 31 07 30 05 06 03 55 04 03"),
		"two of one":          probe.Put(0x30, probe.Put(0x31, attribute[2:], attribute[2:])),
		"another type":        raw("30 0c 31 0a 30 08 06 03 55 04 04 13 01 61"),
		"another text's kind": raw("30 0c 31 0a 30 08 06 03 55 04 03 0c 01 61"),
		"an empty text":       raw("30 0b 31 09 30 07 06 03 55 04 03 13 00"),
		"within another one":  probe.Put(0x30, raw(nameA)),
		"a longer length":     raw("30 81 0c 31 0a 30 08 06 03 55 04 03 13 01 61"),
	} {
		noBody(t, "a subject: "+what, with(atSubject, hex.EncodeToString(b)))
	}
}

// P17.1, P17.3: a key's bytes, and what are none.
func TestToBodyKey(t *testing.T) {
	for _, p := range probe.Points() {
		has(t, but(func(r *api.Request) { r.Key = p }), with(atKey, keyHead+hex.EncodeToString(append(p.X[:], p.Y[:]...))))
	}
	for _, p := range probe.NoPoints() {
		if !p.Inf { // of which the bytes say nothing
			noBody(t, "no point", with(atKey, keyHead+hex.EncodeToString(append(p.X[:], p.Y[:]...))))
		}
	}
	for what, part := range map[string]string{
		"empty":                       "30 00",
		"the bits alone":              strings.Replace(fivesKey, "30 59 30 13 06 07 2a 86 48 ce 3d 02 01 06 08 2a 86 48 ce 3d 03 01 07", "", 1),
		"the far point":               "30 19 30 13 06 07 2a 86 48 ce 3d 02 01 06 08 2a 86 48 ce 3d 03 01 07 03 02 00 00",
		"another curve":               strings.Replace(fivesKey, "03 01 07", "03 01 06", 1),
		"another algorithm":           strings.Replace(fivesKey, "3d 02 01", "3d 02 02", 1),
		"another first byte":          strings.Replace(fivesKey, "42 00 04", "42 00 06", 1),
		"an unused bit":               strings.Replace(fivesKey, "42 00 04", "42 01 04", 1),
		"two unused bits that are 0":  strings.Replace(fivesKey, "42 00 04", "42 02 04", 1),
		"a length not the shortest":   strings.Replace(fivesKey, "30 59", "30 81 59", 1),
		"the bits' length not either": strings.Replace(strings.Replace(fivesKey, "30 59", "30 5a", 1), "03 42", "03 81 42", 1),
		"another tag":                 strings.Replace(fivesKey, "30 59", "31 59", 1),
		"octets":                      strings.Replace(fivesKey, "03 42", "04 42", 1),
	} {
		if part == fivesKey {
			t.Fatalf("%s: nothing is changed", what)
		}
		noBody(t, "a key: "+what, with(atKey, part))
	}
	if sure(cert.ToKey(raw(fivesKey))) != public(five()) {
		t.Error("another key")
	}
}

// asked is the element of extensions that are asked for, by the bytes of these.
func asked(exts []byte) string {
	return hex.EncodeToString(probe.Put(0xa0, probe.Put(0x30, raw(asking), probe.Put(0x31, exts))))
}

// P17.1: extensions, by their bytes, and none.
func TestToBodyExts(t *testing.T) {
	for _, l := range probe.ExtLists() {
		part := "a0 00"
		if len(l) > 0 {
			part = asked(probe.ExtsBytes(l))
		}
		has(t, but(func(r *api.Request) { r.Exts = l }), with(atExts, part))
	}
	for _, l := range probe.NoExtLists() {
		if len(l) < 1<<10 && !slices.ContainsFunc(l, func(x api.Ext) bool { return x.Id < 0 || x.Id > 127 }) {
			noBody(t, "extensions that may not be", with(atExts, asked(probe.ExtsBytes(l))))
		}
	}
}

// P17.1, P17.3: what is no element of extensions: an empty list that is written, another identifier, more than one element in it, what PKCS#10 would have beside them.
func TestToBodyNoExts(t *testing.T) {
	const (
		one   = "30 09 06 03 55 1d 11 04 02 30 00"
		list  = "30 0b" + one
		whole = "30 1a" + asking + "31 0d" + list
	)
	if !bodyReader().AsShould(t, with(atExts, "a0 1c"+whole)) {
		t.Fatal("the extension is not taken")
	}
	for what, digits := range map[string]string{
		"missing":                     "",
		"an empty list":               "a0 11 30 0f" + asking + "31 02 30 00",
		"no list":                     "a0 0f 30 0d" + asking + "31 00",
		"no element 31":               "a0 0d 30 0b" + asking,
		"an element 30 alone":         "a0 02 30 00",
		"the list in its place":       "a0 1a 30 18" + asking + list,
		"an element 30 for the 31":    "a0 1c 30 1a" + asking + "30 0d" + list,
		"without an identifier":       "a0 11 30 0f 31 0d" + list,
		"without an element 30":       "a0 1a" + asking + "31 0d" + list,
		"the list alone":              "a0 0d" + list,
		"the extension alone":         "a0 0b" + one,
		"not in a list":               "a0 1a 30 18" + asking + "31 0b" + one,
		"two attributes":              "a0 38" + whole + whole,
		"something behind":            "a0 1e" + whole + "05 00",
		"something ahead":             "a0 1e 05 00" + whole,
		"an empty one behind":         "a0 1e" + whole + "30 00",
		"another attribute behind":    "a0 2c" + whole + "30 0e 06 09 2a 86 48 86 f7 0d 01 09 07 31 01 05",
		"two lists":                   "a0 29 30 27" + asking + "31 1a" + list + list,
		"an element behind the list":  "a0 1e 30 1c" + asking + "31 0f" + list + "05 00",
		"an element behind the 31":    "a0 1e 30 1c" + asking + "31 0d" + list + "05 00",
		"two elements 31":             "a0 2b 30 29" + asking + "31 0d" + list + "31 0d" + list,
		"in another order":            "a0 1c 30 1a 31 0d" + list + asking,
		"one extension twice":         "a0 27 30 25" + asking + "31 18 30 16" + one + one,
		"a challenge password":        "a0 16 30 14 06 09 2a 86 48 86 f7 0d 01 09 07 31 07 0c 05 68 65 6c 6c 6f",
		"another identifier":          "a0 1c 30 1a 06 09 2a 86 48 86 f7 0d 01 09 0f 31 0d" + list,
		"another one":                 "a0 1d 30 1b 06 0a 2b 06 01 04 01 82 37 02 01 0e 31 0d" + list,
		"an arc fewer":                "a0 1b 30 19 06 08 2a 86 48 86 f7 0d 01 09 31 0d" + list,
		"an arc more":                 "a0 1d 30 1b 06 0a 2a 86 48 86 f7 0d 01 09 0e 00 31 0d" + list,
		"an arc too long":             "a0 1d 30 1b 06 0a 2a 86 48 86 f7 0d 01 09 80 0e 31 0d" + list,
		"another tag":                 "a1 1c" + whole,
		"another tag, as a set's":     "31 1c" + whole,
		"a primitive one":             "80 1c" + whole,
		"an empty one of another tag": "a1 00",
		"an empty primitive one":      "80 00",
		"an empty set":                "31 00",
		"false that is written":       "a0 1f 30 1d" + asking + "31 10 30 0e 30 0c 06 03 55 1d 11 01 01 00 04 02 30 00",
		"no Value":                    "a0 18 30 16" + asking + "31 09 30 07 30 05 06 03 55 1d 11",
		"another extension's arcs":    "a0 1c 30 1a" + asking + "31 0d 30 0b 30 09 06 03 55 1c 11 04 02 30 00",
		"an Id above 127":             "a0 1d 30 1b" + asking + "31 0e 30 0c 30 0a 06 04 55 1d 81 00 04 02 30 00",
		"a length not the shortest":   "a0 81 1c" + whole,
		"another length":              "a0 1d 30 81 1a" + asking + "31 0d" + list,
		"yet another length":          "a0 1d 30 1b" + asking + "31 81 0d" + list,
		"17 of them":                  asked(probe.ExtsBytes(probe.ExtRow(17))),
		"a Value that is too long":    asked(probe.ExtsBytes([]api.Ext{{Id: 17, Value: make([]byte, 65537)}})),
		"as a certificate has them":   "a3 0d" + list,
		"none, and a certificate's":   "a0 00 a3 0d" + list,
	} {
		noBody(t, what, with(atExts, digits))
	}
}
