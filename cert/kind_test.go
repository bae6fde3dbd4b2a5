package cert_test

import (
	"bytes"
	"crypto/elliptic"
	"crypto/x509/pkix"
	"encoding/asn1"
	"math"
	"math/big"
	"slices"
	"strings"
	"time"

	"chancery/api"
	"chancery/ext"
	"chancery/name"
	"chancery/probe"
)

// keyForm is a key's bytes, to the library.
type keyForm struct {
	Algorithm struct{ Id, Curve asn1.ObjectIdentifier }
	Bits      asn1.BitString
}

// bodyForm is a certificate's body, to the library.
type bodyForm struct {
	Version   int `asn1:"explicit,tag:0"`
	Serial    *big.Int
	Algorithm algorithm
	Issuer    asn1.RawValue
	Times     struct{ From, To time.Time }
	Subject   asn1.RawValue
	Key       keyForm
	Exts      []pkix.Extension `asn1:"omitempty,optional,explicit,tag:3"`
}

func formOf(p api.Point) keyForm {
	var f keyForm
	f.Algorithm.Id, f.Algorithm.Curve = asn1.ObjectIdentifier{1, 2, 840, 10045, 2, 1}, asn1.ObjectIdentifier{1, 2, 840, 10045, 3, 1, 7}
	f.Bits = asn1.BitString{Bytes: pointBytes(p), BitLength: 520}
	return f
}

func pointBytes(p api.Point) []byte { return slices.Concat([]byte{4}, p.X[:], p.Y[:]) }

// keyBytes are those of a point that is one of the curve.
func keyBytes(p api.Point) []byte { return libraryBytes(formOf(p)) }

// lies tells whether a point is one of the curve, and not the far one.
func lies(p api.Point) bool {
	return !p.Inf && elliptic.P256().IsOnCurve(value(p.X), value(p.Y))
}

func pointOf(f keyForm) (p api.Point) {
	if b := f.Bits.Bytes; len(b) == 65 {
		p.X, p.Y = api.Digest(b[1:33]), api.Digest(b[33:])
	}
	return p
}

func parseKey(b []byte) (api.Point, bool) {
	var f keyForm
	if !libraryRead(b, &f) {
		return api.Point{}, false
	}
	p := pointOf(f)
	return p, lies(p) && bytes.Equal(keyBytes(p), b)
}

// mayBe tells whether a certificate may be, by the chapter's words.
func mayBe(c api.Cert) bool {
	n := new(big.Int).SetBytes(c.Serial)
	if n.Sign() == 0 || !bytes.Equal(n.Bytes(), c.Serial) || n.BitLen() > 159 { // a bit more, and an integer's content has a byte 0 ahead
		return false
	}
	if c.From < api.MinTime || c.To > api.MaxTime || c.To < c.From {
		return false
	}
	_, wrong := ext.Encode(c.Exts)
	return name.May(c.Issuer) && name.May(c.Subject) && lies(c.Key) && (len(c.Exts) == 0 || wrong == api.OK)
}

// bodyBytes are those of a certificate that may be.
func bodyBytes(c api.Cert) []byte {
	f := bodyForm{Version: 2, Serial: new(big.Int).SetBytes(c.Serial), Algorithm: byECDSA, Issuer: nameForm(c.Issuer), Subject: nameForm(c.Subject), Key: formOf(c.Key)}
	f.Times.From, f.Times.To = time.Unix(int64(c.From), 0).UTC(), time.Unix(int64(c.To), 0).UTC()
	for _, x := range c.Exts {
		f.Exts = append(f.Exts, pkix.Extension{Id: asn1.ObjectIdentifier{2, 5, 29, x.Id}, Critical: x.Critical, Value: x.Value})
	}
	return libraryBytes(f)
}

func nameForm(n api.Name) asn1.RawValue { return asn1.RawValue{FullBytes: nameBytes(n)} }

func nameBytes(n api.Name) []byte {
	b, wrong := name.Encode(n)
	if wrong != api.OK {
		panic(wrong)
	}
	return b
}

// parseBody is the certificate whose body this is.
func parseBody(b []byte) (c api.Cert, ok bool) {
	var f bodyForm
	if !libraryRead(b, &f) || f.Serial.Sign() <= 0 {
		return c, false
	}
	issuer, wrong1 := name.Decode(f.Issuer.FullBytes)
	subject, wrong2 := name.Decode(f.Subject.FullBytes)
	c = api.Cert{Serial: f.Serial.Bytes(), Issuer: issuer, Subject: subject, From: int(f.Times.From.Unix()), To: int(f.Times.To.Unix()), Key: pointOf(f.Key)}
	for _, x := range f.Exts {
		c.Exts = append(c.Exts, api.Ext{Id: x.Id[len(x.Id)-1], Critical: x.Critical, Value: x.Value})
	}
	if wrong1 != api.OK || wrong2 != api.OK || !mayBe(c) || !bytes.Equal(bodyBytes(c), b) {
		return api.Cert{}, false
	}
	return c, true
}

func sameCert(a, b api.Cert) bool {
	return bytes.Equal(a.Serial, b.Serial) && slices.Equal(a.Issuer, b.Issuer) && a.From == b.From && a.To == b.To &&
		slices.Equal(a.Subject, b.Subject) && a.Key == b.Key && probe.SameExts(a.Exts, b.Exts)
}

// zeroPoint has the X 0, and flatPoint the Y 1: both have another writing of 32 bytes, p more.
var (
	zeroPoint = api.Point{Y: hexed("66485c78 0e2f83d7 2433bd5d 84a06bb6 541c2af3 1dae8717 28bf856a 174f93f4")}
	flatPoint = api.Point{X: hexed("09e78d4e f60d05f7 50f66362 09092bc4 3cbdd6b4 7e11a9de 20a9feb2 a50bb96c"), Y: small(1)}
)

// across is the point with the same X.
func across(p api.Point) api.Point {
	new(big.Int).Sub(value(prime), value(p.Y)).FillBytes(p.Y[:])
	return p
}

// multiple is so many times the base.
func multiple(n int64) api.Point {
	d := small(n)
	x, y := elliptic.P256().ScalarBaseMult(d[:])
	var p api.Point
	x.FillBytes(p.X[:])
	y.FillBytes(p.Y[:])
	return p
}

// points are those of each sort that may be a key.
func points() []api.Point {
	l := []api.Point{base, across(base), zeroPoint, across(zeroPoint), flatPoint, across(flatPoint)}
	for n := int64(2); n <= 8; n++ {
		l = append(l, multiple(n), across(multiple(n)))
	}
	return append(l, multiple(1<<40+7), multiple(math.MaxInt64))
}

// noPoints are points of each sort that may not.
func noPoints() []api.Point {
	l := []api.Point{
		far, {}, {X: base.X}, {Y: base.Y}, {X: base.Y, Y: base.X}, {X: base.X, Y: multiple(2).Y}, {X: small(1), Y: small(1)},
		{X: base.X, Y: base.Y, Inf: true}, {X: zeroPoint.X, Y: zeroPoint.Y, Inf: true}, {X: small(1), Inf: true}, {Y: small(1), Inf: true},
		{X: prime, Y: zeroPoint.Y}, {X: prime, Y: across(zeroPoint).Y}, {X: flatPoint.X, Y: plus(prime, 1)}, {X: prime, Y: prime}, {X: prime, Y: prime, Inf: true},
		{X: prime, Y: base.Y}, {X: base.X, Y: prime}, {X: allOnes, Y: base.Y}, {X: base.X, Y: allOnes}, {X: allOnes, Y: allOnes}, {X: order, Y: base.Y},
	}
	for _, bit := range []int{0, 7, 128, 248, 255} {
		l = append(l, api.Point{X: turned(base.X, bit), Y: base.Y}, api.Point{X: base.X, Y: turned(base.Y, bit)})
	}
	return l
}

// serials are those of each sort that may be.
func serials() [][]byte {
	var l [][]byte
	for _, first := range []byte{1, 5, 0x7f, 0x80, 0xff} {
		for n := 1; n <= 20; n++ {
			if n < 20 || first < 0x80 {
				l = append(l, slices.Concat([]byte{first}, make([]byte, n-1)), slices.Repeat([]byte{first}, n))
			}
		}
	}
	return append(l, raw("01 80"), raw("80 01"), raw("7f ff"), raw("ff 00"), slices.Concat([]byte{0x7f}, slices.Repeat([]byte{0xff}, 19)), slices.Concat([]byte{0x80}, make([]byte, 17), []byte{1}))
}

// noSerials are those of each sort that may not.
func noSerials() [][]byte {
	l := [][]byte{nil, {}}
	for _, s := range serials() {
		l = append(l, slices.Concat([]byte{0}, s), slices.Concat([]byte{0, 0}, s))
	}
	for _, n := range []int{1, 2, 19, 20, 21, 256, 65536} {
		l = append(l, make([]byte, n), slices.Concat(make([]byte, n), []byte{5}))
	}
	for _, first := range []byte{0x80, 0x81, 0xff} {
		for _, n := range []int{20, 21, 22} {
			l = append(l, slices.Concat([]byte{first}, make([]byte, n-1)), slices.Repeat([]byte{first}, n))
		}
	}
	for _, n := range []int{21, 22, 32, 127, 128, 256 + 5, 65536 + 5} {
		l = append(l, slices.Repeat([]byte{1}, n), slices.Repeat([]byte{0x7f}, n))
	}
	return l
}

// named is a name with one attribute.
func named(s string) api.Name { return api.Name{{Type: 3, Value: s}} }

// attrs is a name with n attributes.
func attrs(n int) api.Name {
	l := api.Name{}
	for i := range n {
		l = append(l, api.Attr{Type: []int{3, 7, 8, 10, 11}[i%5], Value: strings.Repeat("v", i%64+1)})
	}
	return l
}

// names are those of each sort that may be.
func names() []api.Name {
	l := []api.Name{
		nil, {}, named("a"), named("\u00e9"), named("a@b"), named(strings.Repeat("x", 64)),
		{{Type: 6, Value: "DE"}, {Type: 10, Value: "a, b"}}, {{Type: 5, Value: "1"}, {Type: 5, Value: "1"}}, slices.Repeat(named(strings.Repeat("_", 64)), 16),
	}
	for n := 1; n <= 16; n++ {
		l = append(l, attrs(n))
	}
	return l
}

// noNames are those of each sort that may not.
func noNames() []api.Name {
	return []api.Name{
		attrs(17), attrs(18), slices.Repeat(named("a"), 17), slices.Repeat(named("a"), 1<<16), {{}}, named(""), named(strings.Repeat("x", 65)), named("\xff"),
		{{Type: 4, Value: "a"}}, {{Type: 6, Value: "de"}}, {{Type: 6, Value: "D"}}, {{Type: 5, Value: "a@b"}}, append(attrs(15), api.Attr{Type: 9, Value: "a"}), append(api.Name{{Type: 3}}, attrs(3)...),
	}
}

// turn is the first moment of the year 2050, from which on a time has another form.
const turn = 2524608000

// spans are moments From and To of each sort that may be.
func spans() [][2]int {
	moments := []int{api.MinTime, api.MinTime + 1, -1, 0, 1, 951782399, 951782400, turn - 2, turn - 1, turn, turn + 1, api.MaxTime - 1, api.MaxTime}
	var l [][2]int
	for i, from := range moments {
		for _, to := range moments[i:] {
			l = append(l, [2]int{from, to})
		}
	}
	return l
}

// noSpans are those of each sort that may not.
func noSpans() [][2]int {
	var l [][2]int
	for _, s := range spans() {
		if s[0] != s[1] {
			l = append(l, [2]int{s[1], s[0]})
		}
	}
	for _, t := range []int{api.MinTime - 1, api.MinTime - 86400, math.MinInt, -1 << 62, api.MaxTime + 1, api.MaxTime + 86400, 1 << 62, math.MaxInt} {
		l = append(l, [2]int{t, t}, [2]int{t, 0}, [2]int{0, t}, [2]int{api.MinTime, t}, [2]int{t, api.MaxTime})
	}
	return append(l, [2]int{math.MinInt, math.MaxInt}, [2]int{math.MaxInt, math.MinInt}, [2]int{5, 4})
}

// lists are extensions of each sort that may be, and none.
func lists() [][]api.Ext {
	l := [][]api.Ext{nil, {}, {{Id: 19, Critical: true, Value: raw("30 00")}}, {{Id: 0}}, {{Id: 127, Critical: true}}, {{Id: 19, Critical: true, Value: raw("30 03 01 01 ff")}, {Id: 15, Critical: true, Value: raw("03 02 02 84")}}}
	for n := 1; n <= 16; n++ {
		l = append(l, probe.ExtRow(n))
	}
	// Values by which contents that stand around one another have lengths of one, two and three bytes.
	for _, n := range []int{56, 100, 112, 114, 116, 120, 127, 128, 250, 256, 65000, 65300, 65520, 65536} {
		l = append(l, []api.Ext{{Id: 1, Value: make([]byte, n)}})
	}
	return l
}

// longLists are the longest extensions that may be.
func longLists() []api.Ext {
	l := probe.ExtRow(16)
	for i := range l {
		l[i].Value = make([]byte, 65536)
	}
	return l
}

// noLists are extensions of each sort that may not.
func noLists() [][]api.Ext {
	return [][]api.Ext{
		probe.ExtRow(17), probe.ExtRow(18), probe.ExtRow(128), make([]api.Ext, 1<<16), {{Id: -1}}, {{Id: 128}}, {{Id: 256 + 19}}, {{Id: 1<<32 + 19}}, {{Id: math.MinInt}}, {{Id: 19}, {Id: 19}},
		append(probe.ExtRow(15), probe.ExtRow(1)...), append(probe.ExtRow(3), api.Ext{Id: 128}), {{Id: 19, Value: make([]byte, 65537)}}, append(longLists()[:15], api.Ext{Id: 127, Value: make([]byte, 65537)}),
	}
}

// plain is a certificate as it may be.
func plain() api.Cert {
	return api.Cert{Serial: []byte{5}, Issuer: named("a"), To: 100, Subject: named("b"), Key: base, Exts: []api.Ext{{Id: 19, Critical: true, Value: raw("30 00")}}}
}

// but is a certificate as it may be, with something else.
func but(change func(c *api.Cert)) api.Cert {
	c := plain()
	change(&c)
	return c
}

// varied are certificates with one or two parts out of these.
func varied(serials [][]byte, names []api.Name, spans [][2]int, keys []api.Point, lists [][]api.Ext) []api.Cert {
	var l []api.Cert
	for _, s := range serials {
		l = append(l, but(func(c *api.Cert) { c.Serial = s }))
	}
	for _, n := range names {
		l = append(l, but(func(c *api.Cert) { c.Issuer = n }), but(func(c *api.Cert) { c.Subject = n }), but(func(c *api.Cert) { c.Issuer, c.Subject, c.Exts = n, n, nil }))
	}
	for _, s := range spans {
		l = append(l, but(func(c *api.Cert) { c.From, c.To = s[0], s[1] }))
	}
	for _, p := range keys {
		l = append(l, but(func(c *api.Cert) { c.Key = p }), but(func(c *api.Cert) { c.Key, c.Exts = p, nil }))
	}
	for _, x := range lists {
		l = append(l, but(func(c *api.Cert) { c.Exts = x }))
	}
	return l
}

// goods are certificates of each sort that may be.
func goods() []api.Cert {
	l := varied(serials(), names(), spans(), points(), lists())
	return append(l, plain(), api.Cert{Serial: []byte{1}, Key: base}, api.Cert{Serial: serials()[38], Issuer: attrs(16), From: api.MinTime, To: api.MaxTime, Subject: attrs(16), Key: zeroPoint, Exts: probe.ExtRow(16)})
}

// wrongs are certificates of each sort that may not.
func wrongs() []api.Cert {
	return append(varied(noSerials(), noNames(), noSpans(), noPoints(), noLists()), api.Cert{}, api.Cert{Key: base}, api.Cert{Serial: []byte{5}})
}

// signatures are those of each sort; they need not be anybody's.
func signatures() []api.Signature {
	return []api.Signature{{}, {R: small(1), S: small(128)}, {R: order, S: allOnes}, {R: allOnes, S: api.Digest{}}, {R: api.Digest{0x7f}, S: api.Digest{0x80}}, {R: base.X, S: base.Y}}
}

// couples are bodies and signatures of each sort; such a body need not be a certificate's.
func couples() []couple {
	bodies := [][]byte{raw("05 00"), raw("04 00"), raw("30 00"), raw("00 00"), raw("fe 00"), raw("02 01 05"), raw("30 03 02 01 05"), raw("30 02 ff ff"), bodyBytes(plain()), bodyBytes(api.Cert{Serial: []byte{1}, Key: base})}
	var l []couple
	for _, b := range bodies {
		for _, s := range signatures() {
			l = append(l, couple{b, s})
		}
	}
	// Contents whose lengths take one, two and three bytes to say, and four.
	for _, n := range []int{0, 1, 80, 90, 95, 96, 97, 98, 99, 100, 101, 102, 103, 104, 105, 126, 127, 128, 200, 227, 228, 229, 230, 231, 232, 233, 255, 256, 257, 65500, 65506, 65507, 65508, 65509, 65510, 65535, 65536, 1 << 20} {
		l = append(l, couple{probe.Put(4, make([]byte, n)), api.Signature{R: small(1), S: small(1)}})
	}
	return l
}

// noElements are bytes that are not one element.
func noElements() [][]byte {
	return [][]byte{nil, {}, {5}, {0}, {0x30}, raw("05 00 00"), raw("05 00 05 00"), raw("30 00 30 00"), raw("05 01"), raw("04 02 07"), raw("1f 00"), raw("3f 01 00"), raw("ff 00"), raw("04 80 00 00"), raw("04 81 00"), raw("04 81 01 00"), raw("04 82 00 80"), raw("04 84 00 00 00 00"), raw("04 84 01 00 00 00"), raw("04 ff")}
}

// extBytes are an extension's.
func extBytes(x api.Ext) []byte {
	var critical []byte
	if x.Critical {
		critical = raw("01 01 ff")
	}
	return probe.Put(0x30, raw("06 03 55 1d"), []byte{byte(x.Id)}, critical, probe.Put(4, x.Value))
}

// extsBytes are those of extensions, however many.
func extsBytes(l []api.Ext) []byte {
	var all [][]byte
	for _, x := range l {
		all = append(all, extBytes(x))
	}
	return probe.Put(0x30, all...)
}
