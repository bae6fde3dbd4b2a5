package cert_test

import (
	"bytes"
	"crypto/elliptic"
	"crypto/x509/pkix"
	"encoding/asn1"
	"math"
	"math/big"
	"slices"
	"time"

	"chancery/api"
	"chancery/ext"
	"chancery/name"
	"chancery/probe"
)

// keyForm is a key's bytes, to the library.
type keyForm struct {
	Algorithm struct{ Id, Curve asn1.ObjectIdentifier }
	Bits      asn1.BitString
}

// bodyForm is a certificate's body, to the library.
type bodyForm struct {
	Version   int `asn1:"explicit,tag:0"`
	Serial    *big.Int
	Algorithm algorithm
	Issuer    asn1.RawValue
	Times     struct{ From, To time.Time }
	Subject   asn1.RawValue
	Key       keyForm
	Exts      []pkix.Extension `asn1:"omitempty,optional,explicit,tag:3"`
}

func formOf(p api.Point) keyForm {
	var f keyForm
	f.Algorithm.Id, f.Algorithm.Curve = asn1.ObjectIdentifier{1, 2, 840, 10045, 2, 1}, asn1.ObjectIdentifier{1, 2, 840, 10045, 3, 1, 7}
	f.Bits = asn1.BitString{Bytes: pointBytes(p), BitLength: 520}
	return f
}

func pointBytes(p api.Point) []byte { return slices.Concat([]byte{4}, p.X[:], p.Y[:]) }

// keyBytes are those of a point that is one of the curve.
func keyBytes(p api.Point) []byte { return libraryBytes(formOf(p)) }

// lies tells whether a point is one of the curve, and not the far one.
func lies(p api.Point) bool {
	return !p.Inf && elliptic.P256().IsOnCurve(value(p.X), value(p.Y))
}

func pointOf(f keyForm) (p api.Point) {
	if b := f.Bits.Bytes; len(b) == 65 {
		p.X, p.Y = api.Digest(b[1:33]), api.Digest(b[33:])
	}
	return p
}

func parseKey(b []byte) (api.Point, bool) {
	var f keyForm
	if !libraryRead(b, &f) {
		return api.Point{}, false
	}
	p := pointOf(f)
	return p, lies(p) && bytes.Equal(keyBytes(p), b)
}

// mayBe tells whether a certificate may be, by the chapter's words.
func mayBe(c api.Cert) bool {
	n := new(big.Int).SetBytes(c.Serial)
	if n.Sign() == 0 || !bytes.Equal(n.Bytes(), c.Serial) || n.BitLen() > 159 { // a bit more, and an integer's content has a byte 0 ahead
		return false
	}
	if c.From < api.MinTime || c.To > api.MaxTime || c.To < c.From {
		return false
	}
	_, wrong := ext.Encode(c.Exts)
	return name.May(c.Issuer) && name.May(c.Subject) && lies(c.Key) && (len(c.Exts) == 0 || wrong == api.OK)
}

// bodyBytes are those of a certificate that may be.
func bodyBytes(c api.Cert) []byte {
	f := bodyForm{Version: 2, Serial: new(big.Int).SetBytes(c.Serial), Algorithm: byECDSA, Issuer: nameForm(c.Issuer), Subject: nameForm(c.Subject), Key: formOf(c.Key)}
	f.Times.From, f.Times.To = time.Unix(int64(c.From), 0).UTC(), time.Unix(int64(c.To), 0).UTC()
	for _, x := range c.Exts {
		f.Exts = append(f.Exts, pkix.Extension{Id: asn1.ObjectIdentifier{2, 5, 29, x.Id}, Critical: x.Critical, Value: x.Value})
	}
	return libraryBytes(f)
}

func nameForm(n api.Name) asn1.RawValue { return asn1.RawValue{FullBytes: nameBytes(n)} }

func nameBytes(n api.Name) []byte {
	b, wrong := name.Encode(n)
	if wrong != api.OK {
		panic(wrong)
	}
	return b
}

// parseBody is the certificate whose body this is.
func parseBody(b []byte) (c api.Cert, ok bool) {
	var f bodyForm
	if !libraryRead(b, &f) || f.Serial.Sign() <= 0 {
		return c, false
	}
	issuer, wrong1 := name.Decode(f.Issuer.FullBytes)
	subject, wrong2 := name.Decode(f.Subject.FullBytes)
	c = api.Cert{Serial: f.Serial.Bytes(), Issuer: issuer, Subject: subject, From: int(f.Times.From.Unix()), To: int(f.Times.To.Unix()), Key: pointOf(f.Key)}
	for _, x := range f.Exts {
		c.Exts = append(c.Exts, api.Ext{Id: x.Id[len(x.Id)-1], Critical: x.Critical, Value: x.Value})
	}
	if wrong1 != api.OK || wrong2 != api.OK || !mayBe(c) || !bytes.Equal(bodyBytes(c), b) {
		return api.Cert{}, false
	}
	return c, true
}

func sameCert(a, b api.Cert) bool {
	return bytes.Equal(a.Serial, b.Serial) && slices.Equal(a.Issuer, b.Issuer) && a.From == b.From && a.To == b.To &&
		slices.Equal(a.Subject, b.Subject) && a.Key == b.Key && probe.SameExts(a.Exts, b.Exts)
}

// serials are those of each sort that may be.
func serials() [][]byte {
	var l [][]byte
	for _, first := range []byte{1, 5, 0x7f, 0x80, 0xff} {
		for n := 1; n <= 20; n++ {
			if n < 20 || first < 0x80 {
				l = append(l, slices.Concat([]byte{first}, make([]byte, n-1)), slices.Repeat([]byte{first}, n))
			}
		}
	}
	return append(l, raw("01 80"), raw("80 01"), raw("7f ff"), raw("ff 00"), slices.Concat([]byte{0x7f}, slices.Repeat([]byte{0xff}, 19)), slices.Concat([]byte{0x80}, make([]byte, 17), []byte{1}))
}

// noSerials are those of each sort that may not.
func noSerials() [][]byte {
	l := [][]byte{nil, {}}
	for _, s := range serials() {
		l = append(l, slices.Concat([]byte{0}, s), slices.Concat([]byte{0, 0}, s))
	}
	for _, n := range []int{1, 2, 19, 20, 21, 256, 65536} {
		l = append(l, make([]byte, n), slices.Concat(make([]byte, n), []byte{5}))
	}
	for _, first := range []byte{0x80, 0x81, 0xff} {
		for _, n := range []int{20, 21, 22} {
			l = append(l, slices.Concat([]byte{first}, make([]byte, n-1)), slices.Repeat([]byte{first}, n))
		}
	}
	for _, n := range []int{21, 22, 32, 127, 128, 256 + 5, 65536 + 5} {
		l = append(l, slices.Repeat([]byte{1}, n), slices.Repeat([]byte{0x7f}, n))
	}
	return l
}

// turn is the first moment of the year 2050, from which on a time has another form.
const turn = 2524608000

// spans are moments From and To of each sort that may be.
func spans() [][2]int {
	moments := []int{api.MinTime, api.MinTime + 1, -1, 0, 1, 951782399, 951782400, turn - 2, turn - 1, turn, turn + 1, api.MaxTime - 1, api.MaxTime}
	var l [][2]int
	for i, from := range moments {
		for _, to := range moments[i:] {
			l = append(l, [2]int{from, to})
		}
	}
	return l
}

// noSpans are those of each sort that may not.
func noSpans() [][2]int {
	var l [][2]int
	for _, s := range spans() {
		if s[0] != s[1] {
			l = append(l, [2]int{s[1], s[0]})
		}
	}
	for _, t := range []int{api.MinTime - 1, api.MinTime - 86400, math.MinInt, -1 << 62, api.MaxTime + 1, api.MaxTime + 86400, 1 << 62, math.MaxInt} {
		l = append(l, [2]int{t, t}, [2]int{t, 0}, [2]int{0, t}, [2]int{api.MinTime, t}, [2]int{t, api.MaxTime})
	}
	return append(l, [2]int{math.MinInt, math.MaxInt}, [2]int{math.MaxInt, math.MinInt}, [2]int{5, 4})
}

// plain is a certificate as it may be.
func plain() api.Cert {
	return api.Cert{Serial: []byte{5}, Issuer: probe.Named("a"), To: 100, Subject: probe.Named("b"), Key: base, Exts: []api.Ext{{Id: 19, Critical: true, Value: raw("30 00")}}}
}

// but is a certificate as it may be, with something else.
func but(change func(c *api.Cert)) api.Cert {
	c := plain()
	change(&c)
	return c
}

// varied are certificates with one or two parts out of these.
func varied(serials [][]byte, names []api.Name, spans [][2]int, keys []api.Point, lists [][]api.Ext) []api.Cert {
	var l []api.Cert
	for _, s := range serials {
		l = append(l, but(func(c *api.Cert) { c.Serial = s }))
	}
	for _, n := range names {
		l = append(l, but(func(c *api.Cert) { c.Issuer = n }), but(func(c *api.Cert) { c.Subject = n }), but(func(c *api.Cert) { c.Issuer, c.Subject, c.Exts = n, n, nil }))
	}
	for _, s := range spans {
		l = append(l, but(func(c *api.Cert) { c.From, c.To = s[0], s[1] }))
	}
	for _, p := range keys {
		l = append(l, but(func(c *api.Cert) { c.Key = p }), but(func(c *api.Cert) { c.Key, c.Exts = p, nil }))
	}
	for _, x := range lists {
		l = append(l, but(func(c *api.Cert) { c.Exts = x }))
	}
	return l
}

// goods are certificates of each sort that may be.
func goods() []api.Cert {
	l := varied(serials(), probe.Names(), spans(), probe.Points(), probe.ExtLists())
	return append(l, plain(), api.Cert{Serial: []byte{1}, Key: base}, api.Cert{Serial: serials()[38], Issuer: probe.Attrs(16), From: api.MinTime, To: api.MaxTime, Subject: probe.Attrs(16), Key: probe.ZeroPoint(), Exts: probe.ExtRow(16)})
}

// wrongs are certificates of each sort that may not.
func wrongs() []api.Cert {
	return append(varied(noSerials(), probe.NoNames(), noSpans(), probe.NoPoints(), probe.NoExtLists()), api.Cert{}, api.Cert{Key: base}, api.Cert{Serial: []byte{5}})
}

// signatures are those of each sort; they need not be anybody's.
func signatures() []api.Signature {
	return []api.Signature{{}, {R: probe.Small(1), S: probe.Small(128)}, {R: order, S: allOnes}, {R: allOnes, S: api.Digest{}}, {R: api.Digest{0x7f}, S: api.Digest{0x80}}, {R: base.X, S: base.Y}}
}

// couples are bodies and signatures of each sort; such a body need not be a certificate's.
func couples() []couple {
	bodies := [][]byte{raw("05 00"), raw("04 00"), raw("30 00"), raw("00 00"), raw("fe 00"), raw("02 01 05"), raw("30 03 02 01 05"), raw("30 02 ff ff"), bodyBytes(plain()), bodyBytes(api.Cert{Serial: []byte{1}, Key: base})}
	var l []couple
	for _, b := range bodies {
		for _, s := range signatures() {
			l = append(l, couple{b, s})
		}
	}
	// Contents whose lengths take one, two and three bytes to say, and four.
	for _, n := range []int{0, 1, 80, 90, 95, 96, 97, 98, 99, 100, 101, 102, 103, 104, 105, 126, 127, 128, 200, 227, 228, 229, 230, 231, 232, 233, 255, 256, 257, 65500, 65506, 65507, 65508, 65509, 65510, 65535, 65536, 1 << 20} {
		l = append(l, couple{probe.Put(4, make([]byte, n)), api.Signature{R: probe.Small(1), S: probe.Small(1)}})
	}
	return l
}

// noElements are bytes that are not one element.
func noElements() [][]byte {
	return [][]byte{nil, {}, {5}, {0}, {0x30}, raw("05 00 00"), raw("05 00 05 00"), raw("30 00 30 00"), raw("05 01"), raw("04 02 07"), raw("1f 00"), raw("3f 01 00"), raw("ff 00"), raw("04 80 00 00"), raw("04 81 00"), raw("04 81 01 00"), raw("04 82 00 80"), raw("04 84 00 00 00 00"), raw("04 84 01 00 00 00"), raw("04 ff")}
}
