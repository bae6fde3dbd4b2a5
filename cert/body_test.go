package cert_test

import (
	"bytes"
	"encoding/hex"
	"slices"
	"strings"
	"testing"

	"chancery/api"
	"chancery/cert"
	"chancery/clock"
	"chancery/probe"
)

const ecdsaWithSHA256 = "30 0a 06 08 2a 86 48 ce 3d 04 03 02"

// knownBodies are certificates with their bodies, written out.
var knownBodies = []struct {
	c     api.Cert
	bytes string
}{
	{
		api.Cert{Serial: []byte{5}, Issuer: probe.Named("a"), To: 100, Subject: probe.Named("b"), Key: base, Exts: []api.Ext{{Id: 19, Critical: true, Value: []byte{0x30, 0}}}},
		"30 81 bd a0 03 02 01 02 02 01 05" + ecdsaWithSHA256 + "30 0c 31 0a 30 08 06 03 55 04 03 13 01 61" +
			"30 1e 17 0d 37 30 30 31 30 31 30 30 30 30 30 30 5a 17 0d 37 30 30 31 30 31 30 30 30 31 34 30 5a" + "30 0c 31 0a 30 08 06 03 55 04 03 13 01 62" +
			baseKey + "a3 10 30 0e 30 0c 06 03 55 1d 13 01 01 ff 04 02 30 00",
	},
	{
		api.Cert{Serial: []byte{0x80}, From: turn - 1, To: turn, Key: base},
		"30 81 96 a0 03 02 01 02 02 02 00 80" + ecdsaWithSHA256 + "30 00" +
			"30 20 17 0d 34 39 31 32 33 31 32 33 35 39 35 39 5a 18 0f 32 30 35 30 30 31 30 31 30 30 30 30 30 30 5a" + "30 00" + baseKey,
	},
	{
		api.Cert{Serial: raw("7f 00 00 00 00 00 00 00 00 00 00 00 00 00 00 00 00 00 00 01"), Subject: api.Name{{Type: 6, Value: "DE"}, {Type: 3, Value: "\u00e9"}}, From: api.MinTime, To: api.MaxTime, Key: probe.FlatPoint(), Exts: []api.Ext{{Id: 0}, {Id: 127, Value: []byte("x")}}},
		"30 81 d9 a0 03 02 01 02 02 14 7f 00 00 00 00 00 00 00 00 00 00 00 00 00 00 00 00 00 00 01" + ecdsaWithSHA256 + "30 00" +
			"30 20 17 0d 35 30 30 31 30 31 30 30 30 30 30 30 5a 18 0f 39 39 39 39 31 32 33 31 32 33 35 39 35 39 5a" +
			"30 1a 31 0b 30 09 06 03 55 04 06 13 02 44 45 31 0b 30 09 06 03 55 04 03 0c 02 c3 a9" +
			"30 59 30 13 06 07 2a 86 48 ce 3d 02 01 06 08 2a 86 48 ce 3d 03 01 07 03 42 00 04 09e78d4e f60d05f7 50f66362 09092bc4 3cbdd6b4 7e11a9de 20a9feb2 a50bb96c 00000000 00000000 00000000 00000000 00000000 00000000 00000000 00000001" +
			"a3 15 30 13 30 07 06 03 55 1d 00 04 00 30 08 06 03 55 1d 7f 04 01 78",
	},
}

// has fails unless a certificate has this body, which is read as it.
func has(t *testing.T, c api.Cert, b []byte) {
	t.Helper()
	if got, e := cert.Body(c); e != api.OK || !bytes.Equal(got, b) {
		t.Fatalf("Body(%.600s): %.600x, error %d; want %.600x", show(c), got, e, b)
	}
	if got, e := cert.ToBody(b); e != api.OK || !sameCert(got, c) {
		t.Fatalf("ToBody(%.600x): %.600s, error %d; want %.600s", b, show(got), e, show(c))
	}
}

// refuses fails unless a certificate may not be, and nothing stands beside the errors.
func refuses(t *testing.T, c api.Cert) {
	t.Helper()
	if got, e := cert.Body(c); e != api.ErrCert || len(got) > 0 {
		t.Fatalf("Body(%.600s): %.600x, error %d", show(c), got, e)
	}
	if got, e := cert.Sign(c, probe.Small(5)); e != api.ErrCert || len(got) > 0 {
		t.Fatalf("Sign(%.600s): %.600x, error %d", show(c), got, e)
	}
}

// P16.2: bodies that are written out.
func TestKnownBodies(t *testing.T) {
	for _, c := range knownBodies {
		has(t, c.c, raw(c.bytes))
	}
}

// P16.2: certificates of each sort that may be, as the library writes them.
func TestBodies(t *testing.T) {
	for _, c := range goods() {
		has(t, c, bodyBytes(c))
	}
	c := but(func(c *api.Cert) { c.Exts = probe.LongExts() })
	has(t, c, bodyBytes(c))
}

// P16.2: contents around one another, whose lengths begin to take a byte more.
func TestBodyLengths(t *testing.T) {
	heads := map[string]int{}
	for _, span := range [][2]int{{0, 300}, {65100, 65536}} {
		for n := span[0]; n <= span[1]; n++ {
			c := but(func(c *api.Cert) { c.Exts = []api.Ext{{Id: 1, Value: make([]byte, n)}} })
			b := bodyBytes(c)
			has(t, c, b)
			heads[show(b[1])]++
		}
	}
	if len(heads) != 3 {
		t.Errorf("lengths that begin with %v", heads)
	}
}

// parted is a body in its parts, each written out.
func parted() []string {
	return []string{
		"a0 03 02 01 02", "02 01 05", ecdsaWithSHA256, "30 0c 31 0a 30 08 06 03 55 04 03 13 01 61",
		"30 1e 17 0d 37 30 30 31 30 31 30 30 30 30 30 30 5a 17 0d 37 30 30 31 30 31 30 30 30 31 34 30 5a", "30 0c 31 0a 30 08 06 03 55 04 03 13 01 62",
		baseKey, "a3 10 30 0e 30 0c 06 03 55 1d 13 01 01 ff 04 02 30 00",
	}
}

// Places of the parts.
const (
	atVersion = iota
	atSerial
	atAlgorithm
	atIssuer
	atTimes
	atSubject
	atKey
	atExts
)

// of is a body of parts.
func of(parts []string) []byte { return probe.Put(0x30, raw(strings.Join(parts, " "))) }

// with is a body with another part.
func with(place int, part string) []byte {
	l := parted()
	l[place] = part
	return of(l)
}

// P16.2: a part that is missing, that stands there twice, that stands elsewhere, that is empty.
func TestToBodyParts(t *testing.T) {
	r := bodyReader()
	has(t, plain(), of(parted()))
	for i, part := range parted() {
		if missing := of(slices.Delete(parted(), i, i+1)); i == atExts {
			has(t, but(func(c *api.Cert) { c.Exts = nil }), missing)
		} else {
			r.None(t, "a part missing", missing)
		}
		r.None(t, "a part twice", of(slices.Insert(parted(), i, part)))
		r.None(t, "a part once more at the end", of(append(parted(), part)))
		r.None(t, "a part with something behind", with(i, part+"05 00"))
		if got := r.AsShould(t, with(i, part[:2]+" 00")); got != (i == atIssuer || i == atSubject) { // a name may be of no attributes
			t.Errorf("the part %d without what is in it: %t", i, got)
		}
		for j := range i {
			l := parted()
			l[i], l[j] = l[j], l[i]
			if got := r.AsShould(t, of(l)); got != (i == atSubject && j == atIssuer) {
				t.Errorf("the parts %d and %d changed over: %t", i, j, got)
			}
		}
	}
	r.None(t, "no part", of(nil))
	for n := range parted() {
		if n < atExts {
			r.None(t, "parts missing at the end", of(parted()[:n]))
		}
	}
	r.None(t, "within another one", probe.Put(0x30, of(parted())))
	for _, tag := range []byte{0x31, 0x10, 0x04, 0xa0, 0xb0, 0x70} {
		r.None(t, "another tag", probe.Put(tag, raw(strings.Join(parted(), " "))))
	}
}

// P16.2: another version, and none.
func TestToBodyVersion(t *testing.T) {
	r := bodyReader()
	for n := range 256 {
		digits := raw("a0 03 02 01 00")
		digits[4] = byte(n)
		l := parted()
		b := probe.Put(0x30, digits, raw(strings.Join(l[1:], " ")))
		if got := r.AsShould(t, b); got != (n == 2) {
			t.Errorf("the version %d: %t", n, got)
		}
	}
	for _, version := range []string{"", "02 01 02", "a0 00", "a0 02 02 00", "a0 04 02 02 00 02", "a0 06 02 01 02 02 01 02", "a0 03 0a 01 02", "80 01 02", "a0 81 03 02 01 02", "a0 04 02 81 01 02", "a1 03 02 01 02", "a0 05 30 03 02 01 02", "30 03 02 01 02", "a0 04 02 02 01 02"} {
		r.None(t, "another version", with(atVersion, version))
	}
}

// P16.2: serial numbers, by their bytes.
func TestToBodySerial(t *testing.T) {
	r := bodyReader()
	for _, s := range serials() {
		content := s
		if s[0] >= 128 {
			content = slices.Concat([]byte{0}, s)
		}
		has(t, but(func(c *api.Cert) { c.Serial = s }), with(atSerial, hex.EncodeToString(probe.Put(2, content))))
		r.None(t, "a byte 0 that need not stand ahead", with(atSerial, hex.EncodeToString(probe.Put(2, []byte{0}, content))))
		if s[0] >= 128 {
			r.None(t, "a number below 0", with(atSerial, hex.EncodeToString(probe.Put(2, s))))
		}
		for _, tag := range []byte{0x0a, 0x04, 0x22, 0x82} {
			r.None(t, "another tag", with(atSerial, hex.EncodeToString(probe.Put(tag, content))))
		}
	}
	for _, s := range []string{
		"02 00", "02 01 00", "02 02 00 00", "02 02 00 05", "02 02 00 7f", "02 01 80", "02 01 ff", "02 02 ff 7f", "02 02 ff 80", "02 81 01 05", "02 82 00 01 05",
		"02 14 80" + strings.Repeat("00", 19), "02 14 ff 7f" + strings.Repeat("00", 18), "02 15 00 80" + strings.Repeat("00", 19), "02 15 00 ff" + strings.Repeat("ff", 19), "02 15 01" + strings.Repeat("00", 20), "02 15 7f" + strings.Repeat("ff", 20), "02 21 01" + strings.Repeat("00", 32), "02 81 80 01" + strings.Repeat("00", 127),
	} {
		r.None(t, "no serial number", with(atSerial, s))
	}
}

// otherAlgorithms are elements that stand where the algorithm's one should.
var otherAlgorithms = []string{
	"30 00", "30 02 06 00", "06 08 2a 86 48 ce 3d 04 03 02", "30 0c 06 08 2a 86 48 ce 3d 04 03 02 05 00", "30 0c 05 00 06 08 2a 86 48 ce 3d 04 03 02", "30 14 06 08 2a 86 48 ce 3d 04 03 02 06 08 2a 86 48 ce 3d 04 03 02",
	"30 0a 06 08 2a 86 48 ce 3d 04 03 01", "30 0a 06 08 2a 86 48 ce 3d 04 03 03", "30 0a 06 08 2a 86 48 ce 3d 04 03 04", "30 09 06 07 2a 86 48 ce 3d 04 01", "30 09 06 07 2a 86 48 ce 3d 04 03", "30 0b 06 09 2a 86 48 ce 3d 04 03 02 01", "30 0b 06 09 2a 86 48 ce 3d 04 03 80 02",
	"30 0d 06 09 2a 86 48 86 f7 0d 01 01 0b 05 00", "30 05 06 03 2b 65 70", "30 81 0a 06 08 2a 86 48 ce 3d 04 03 02", "30 0b 06 81 08 2a 86 48 ce 3d 04 03 02", "31 0a 06 08 2a 86 48 ce 3d 04 03 02", "30 0a 04 08 2a 86 48 ce 3d 04 03 02", "30 0c 30 0a 06 08 2a 86 48 ce 3d 04 03 02",
}

// P16.2: another algorithm.
func TestToBodyAlgorithm(t *testing.T) {
	r := bodyReader()
	for _, digits := range otherAlgorithms {
		r.None(t, "another algorithm", with(atAlgorithm, digits))
	}
}

// P16.2: names, by their bytes.
func TestToBodyNames(t *testing.T) {
	r := bodyReader()
	for _, n := range probe.Names() {
		has(t, but(func(c *api.Cert) { c.Issuer = n }), with(atIssuer, hex.EncodeToString(nameBytes(n))))
		has(t, but(func(c *api.Cert) { c.Subject = n }), with(atSubject, hex.EncodeToString(nameBytes(n))))
	}
	attribute := nameBytes(probe.Named("a"))[2:]
	for what, b := range map[string][]byte{
		"no element":          nil,
		"another tag":         {0x31, 0},
		"17 attributes":       probe.Put(0x30, bytes.Repeat(attribute, 17)),
		"many attributes":     probe.Put(0x30, bytes.Repeat(attribute, 1000)),
		"no attribute":        raw("30 02 31 00"),
		"an attribute's half": raw("30 09 31 07 30 05 06 03 55 04 03"),
		"two of one":          probe.Put(0x30, probe.Put(0x31, attribute[2:], attribute[2:])),
		"another type":        raw("30 0c 31 0a 30 08 06 03 55 04 04 13 01 61"),
		"another text's kind": raw("30 0c 31 0a 30 08 06 03 55 04 03 0c 01 61"),
		"an empty text":       raw("30 0b 31 09 30 07 06 03 55 04 03 13 00"),
		"within another one":  probe.Put(0x30, nameBytes(probe.Named("a"))),
		"a longer length":     raw("30 81 0c 31 0a 30 08 06 03 55 04 03 13 01 61"),
	} {
		r.None(t, "an issuer: "+what, with(atIssuer, hex.EncodeToString(b)))
		r.None(t, "a subject: "+what, with(atSubject, hex.EncodeToString(b)))
	}
}

// times is the element of two times by their tags and texts.
func times(fromTag byte, from string, toTag byte, to string) string {
	return hex.EncodeToString(probe.Put(0x30, probe.Put(fromTag, []byte(from)), probe.Put(toTag, []byte(to))))
}

// P16.2: times, by their bytes.
func TestToBodyTimes(t *testing.T) {
	r := bodyReader()
	for _, s := range spans() {
		tag1, from, e1 := clock.Put(s[0])
		tag2, to, e2 := clock.Put(s[1])
		if e1 != api.OK || e2 != api.OK {
			t.Fatal(e1, e2)
		}
		has(t, but(func(c *api.Cert) { c.From, c.To = s[0], s[1] }), with(atTimes, times(byte(tag1), string(from), byte(tag2), string(to))))
		if s[0] != s[1] {
			r.None(t, "To below From", with(atTimes, times(byte(tag2), string(to), byte(tag1), string(from))))
		}
	}
}

// P16.2: what are no two times of a certificate.
func TestToBodyNoTimes(t *testing.T) {
	r := bodyReader()
	const early, late, future = "700101000000Z", "700101000140Z", "20500101000000Z"
	for what, digits := range map[string]string{
		"none":                    "30 00",
		"one":                     hex.EncodeToString(probe.Put(0x30, probe.Put(0x17, []byte(early)))),
		"three":                   hex.EncodeToString(probe.Put(0x30, probe.Put(0x17, []byte(early)), probe.Put(0x17, []byte(late)), probe.Put(0x17, []byte(late)))),
		"another tag":             "31" + times(0x17, early, 0x17, late)[2:],
		"From in the other form":  times(0x18, "19700101000000Z", 0x17, late),
		"To in the other form":    times(0x17, early, 0x18, "19700101000140Z"),
		"both in the other form":  times(0x18, "20491231235959Z", 0x18, "20491231235959Z"),
		"the short form of 2050":  times(0x17, early, 0x17, "20500101000000Z"),
		"the long form's tag":     times(0x17, early, 0x18, late),
		"the short form's tag":    times(0x17, future, 0x18, future),
		"a year below 1950":       times(0x18, "19491231235959Z", 0x17, late),
		"no seconds":              times(0x17, "7001010000Z", 0x17, late),
		"an offset":               times(0x17, "700101000000+0000", 0x17, late),
		"no Z":                    times(0x17, "700101000000", 0x17, late),
		"parts of a second":       times(0x17, early, 0x18, "20500101000000.5Z"),
		"no such day":             times(0x17, "700100000000Z", 0x17, late),
		"no such month":           times(0x17, early, 0x17, "701301000000Z"),
		"a leap second":           times(0x17, early, 0x17, "701231235960Z"),
		"no digit":                times(0x17, early, 0x17, "70010100000aZ"),
		"no text":                 times(0x17, "", 0x17, late),
		"another tag of From":     times(0x13, early, 0x17, late),
		"another tag of To":       times(0x17, early, 0x0c, late),
		"To below From":           times(0x17, late, 0x17, early),
		"To below From, far":      times(0x18, "99991231235959Z", 0x17, "500101000000Z"),
		"To below From, by forms": times(0x18, future, 0x17, "491231235959Z"),
		"a time in a time":        times(0x17, "\x17\x0d"+early, 0x17, late),
	} {
		r.None(t, what, with(atTimes, digits))
	}
}

// P16.2: a key that is none.
func TestToBodyKey(t *testing.T) {
	for _, p := range probe.Points() {
		has(t, but(func(c *api.Cert) { c.Key = p }), with(atKey, hex.EncodeToString(keyBytes(p))))
	}
	r := bodyReader()
	for _, p := range probe.NoPoints() {
		if p.Inf { // of which the bytes say nothing
			continue
		}
		r.None(t, "no point", with(atKey, hex.EncodeToString(libraryBytes(formOf(p)))))
	}
	bits := strings.Replace(baseKey, "30 59 30 13 06 07 2a 86 48 ce 3d 02 01 06 08 2a 86 48 ce 3d 03 01 07", "", 1)
	for what, part := range map[string]string{
		"empty":                       "30 00",
		"the bits alone":              bits,
		"another curve":               strings.Replace(baseKey, "03 01 07", "03 01 06", 1),
		"another algorithm":           strings.Replace(baseKey, "3d 02 01", "3d 02 02", 1),
		"another first byte":          strings.Replace(baseKey, "42 00 04", "42 00 06", 1),
		"an unused bit":               strings.Replace(baseKey, "42 00 04", "42 01 04", 1),
		"a length not the shortest":   strings.Replace(baseKey, "30 59", "30 81 59", 1),
		"the bits' length not either": strings.Replace(strings.Replace(baseKey, "30 59", "30 5a", 1), "03 42", "03 81 42", 1),
		"another tag":                 strings.Replace(baseKey, "30 59", "31 59", 1),
		"octets":                      strings.Replace(baseKey, "03 42", "04 42", 1),
	} {
		if part == baseKey {
			t.Fatalf("%s: nothing is changed", what)
		}
		r.None(t, "a key: "+what, with(atKey, part))
	}
}

// P16.2: extensions, by their bytes; an empty list that is written, other elements that X.509 would have there.
func TestToBodyExts(t *testing.T) {
	for _, l := range probe.ExtLists() {
		c := but(func(c *api.Cert) { c.Exts = l })
		part := ""
		if len(l) > 0 {
			part = hex.EncodeToString(probe.Put(0xa3, probe.ExtsBytes(l)))
		}
		has(t, c, with(atExts, part))
	}
	r := bodyReader()
	one := "30 0c 06 03 55 1d 13 01 01 ff 04 02 30 00"
	for what, digits := range map[string]string{
		"an empty list":            "a3 02 30 00",
		"nothing":                  "a3 00",
		"two lists":                "a3 20 30 0e" + one + "30 0e" + one,
		"one twice":                "a3 1e 30 1c" + one + one,
		"not in a list":            "a3 0e" + one,
		"the list alone":           "30 0e" + one,
		"another tag":              "a2 10 30 0e" + one,
		"yet another tag":          "83 10 30 0e" + one,
		"false that is written":    "a3 10 30 0e 30 0c 06 03 55 1d 13 01 01 00 04 02 30 00",
		"no Value":                 "a3 09 30 07 30 05 06 03 55 1d 13",
		"another identifier":       "a3 0d 30 0b 30 09 06 03 55 1c 13 04 02 30 00",
		"an Id above 127":          "a3 0e 30 0c 30 0a 06 04 55 1d 81 00 04 02 30 00",
		"a key's name ahead":       "82 02 00 01 a3 10 30 0e" + one,
		"an issuer's name ahead":   "81 02 00 01 a3 10 30 0e" + one,
		"a key's name alone":       "82 02 00 01",
		"a longer length":          "a3 81 10 30 0e" + one,
		"something behind":         "a3 12 30 0e" + one + "05 00",
		"17 of them":               hex.EncodeToString(probe.Put(0xa3, probe.ExtsBytes(probe.ExtRow(17)))),
		"a Value that is too long": hex.EncodeToString(probe.Put(0xa3, probe.Put(0x30, probe.Put(0x30, raw("06 03 55 1d 13"), probe.Put(4, make([]byte, 65537)))))),
	} {
		r.None(t, what, with(atExts, digits))
	}
}
