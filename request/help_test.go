package request_test

import (
	"bytes"
	"crypto/ecdsa"
	"crypto/elliptic"
	"crypto/sha256"
	"crypto/x509/pkix"
	"encoding/asn1"
	"fmt"
	"slices"

	"chancery/api"
	"chancery/cert"
	"chancery/ext"
	"chancery/name"
	"chancery/probe"
	"chancery/request"
	"chancery/sign"
)

// raw are bytes by digits.
func raw(digits string) []byte { return probe.Raw(digits) }

// show is anything, to be read.
func show(v any) string { return fmt.Sprintf("%+v", v) }

// attribute is an attribute of a request, to the library.
type attribute struct {
	Id     asn1.ObjectIdentifier
	Values [][]pkix.Extension `asn1:"set"`
}

// form is a request's body, to the library.
type form struct {
	Version      int
	Subject, Key asn1.RawValue
	Attributes   []attribute `asn1:"tag:0"`
}

var askingId = asn1.ObjectIdentifier{1, 2, 840, 113549, 1, 9, 14}

// sure is an answer without an error.
func sure[T any](v T, e api.Errno) T {
	if e != api.OK {
		panic(e)
	}
	return v
}

// lies tells whether the library takes a point for a key.
func lies(p api.Point) bool {
	_, err := libraryKey(p)
	return err == nil && !p.Inf
}

func libraryKey(p api.Point) (*ecdsa.PublicKey, error) {
	return ecdsa.ParseUncompressedPublicKey(elliptic.P256(), slices.Concat([]byte{4}, p.X[:], p.Y[:]))
}

// mayBe tells whether a request may be, by the chapter's words.
func mayBe(r api.Request) bool {
	_, wrong := ext.Encode(r.Exts)
	return name.May(r.Subject) && lies(r.Key) && (len(r.Exts) == 0 || wrong == api.OK)
}

// bodyBytes are those of a request that may be, as the library writes them.
func bodyBytes(r api.Request) []byte {
	f := form{
		Subject: asn1.RawValue{FullBytes: sure(name.Encode(r.Subject))},
		Key:     asn1.RawValue{FullBytes: sure(cert.Key(r.Key))},
	}
	if len(r.Exts) > 0 {
		var l []pkix.Extension
		for _, x := range r.Exts {
			l = append(l, pkix.Extension{Id: asn1.ObjectIdentifier{2, 5, 29, x.Id}, Critical: x.Critical, Value: x.Value})
		}
		f.Attributes = []attribute{{askingId, [][]pkix.Extension{l}}}
	}
	b, err := asn1.Marshal(f)
	if err != nil {
		panic(err)
	}
	return b
}

// parseBody is the request whose body this is, as the library reads it.
func parseBody(b []byte) (api.Request, bool) {
	var f form
	if rest, err := asn1.Unmarshal(b, &f); err != nil || len(rest) > 0 {
		return api.Request{}, false
	}
	subject, wrongSubject := name.Decode(f.Subject.FullBytes)
	key, wrongKey := cert.ToKey(f.Key.FullBytes)
	r := api.Request{Subject: subject, Key: key}
	for _, a := range f.Attributes {
		for _, x := range slices.Concat(a.Values...) {
			r.Exts = append(r.Exts, api.Ext{Id: x.Id[len(x.Id)-1], Critical: x.Critical, Value: x.Value})
		}
	}
	// What the library takes is more than may be: that shows by other bytes.
	if wrongSubject != api.OK || wrongKey != api.OK || !mayBe(r) || !bytes.Equal(bodyBytes(r), b) {
		return api.Request{}, false
	}
	return r, true
}

// joined are a request's bytes, with any signature.
func joined(body []byte, s api.Signature) []byte { return sure(cert.Join(body, s)) }

// parse is the request whose bytes these are.
func parse(b []byte) (api.Request, bool) {
	body, _, wrong := cert.Split(b)
	if wrong != api.OK {
		return api.Request{}, false
	}
	return parseBody(body)
}

// verdict is what Check says of a request's bytes.
type verdict struct {
	r        api.Request
	unproven bool
}

func check(b []byte) (verdict, api.Errno) {
	r, e := request.Check(b)
	if e == api.ErrProof {
		return verdict{r, true}, api.OK
	}
	return verdict{r, false}, e
}

// parseVerdict is what it should say, as the library has it.
func parseVerdict(b []byte) (verdict, bool) {
	r, ok := parse(b)
	if !ok {
		return verdict{}, false
	}
	body, s, _ := cert.Split(b)
	key, err := libraryKey(r.Key)
	h := sha256.Sum256(body)
	if err != nil || !ecdsa.VerifyASN1(key, h[:], sign.Encode(s)) {
		return verdict{unproven: true}, true
	}
	return verdict{r: r}, true
}

func same(a, b api.Request) bool {
	return slices.Equal(a.Subject, b.Subject) && a.Key == b.Key && probe.SameExts(a.Exts, b.Exts)
}

// scribble writes over all lists of a request, and the spare room behind them.
func scribble(r api.Request) {
	probe.ScribbleName(r.Subject)
	probe.ScribbleExts(r.Exts)
}

// faces are all calls that read, with bytes of each sort that they should take.
func faces() []probe.Face {
	bodies, requests, checks := bodyReader(), requestReader(), checkReader()
	for i, r := range goods() {
		body := bodyBytes(r)
		bodies.Samples = append(bodies.Samples, body)
		requests.Samples = append(requests.Samples, joined(body, signatures()[i%len(signatures())]))
	}
	for i, r := range few() {
		d := probe.Keys()[i%len(probe.Keys())]
		if i%5 < 4 {
			r.Key = public(d)
		}
		checks.Samples = append(checks.Samples, signed(r, d))
	}
	return []probe.Face{bodies, requests, checks}
}

func bodyReader() probe.Reader[api.Request] {
	return probe.Reader[api.Request]{What: "ToBody", Wrong: api.ErrRequest, Read: request.ToBody, Parse: parseBody, Same: same, Scribble: scribble}
}

func requestReader() probe.Reader[api.Request] {
	return probe.Reader[api.Request]{What: "Decode", Wrong: api.ErrRequest, Read: request.Decode, Parse: parse, Same: same, Scribble: scribble}
}

func checkReader() probe.Reader[verdict] {
	return probe.Reader[verdict]{
		What: "Check", Wrong: api.ErrRequest, Read: check, Parse: parseVerdict,
		Same:     func(a, b verdict) bool { return a.unproven == b.unproven && same(a.r, b.r) },
		Scribble: func(v verdict) { scribble(v.r) },
	}
}

// public is a key's point.
func public(d api.Digest) api.Point { return sure(sign.Public(d)) }

// signed are a request's bytes as they should be, by the layers below.
func signed(r api.Request, d api.Digest) []byte {
	body := bodyBytes(r)
	return joined(body, sure(sign.Sign(d, body)))
}

// five is a key.
func five() api.Digest { return probe.Small(5) }

// plain is a request as it may be.
func plain() api.Request {
	return api.Request{Subject: probe.Named("a"), Key: public(five()), Exts: []api.Ext{{Id: 17, Value: raw("30 00")}}}
}

// but is a request as it may be, with something else.
func but(change func(r *api.Request)) api.Request {
	r := plain()
	change(&r)
	return r
}

// varied are requests with a part out of these, with extensions and without.
func varied(names []api.Name, keys []api.Point, lists [][]api.Ext) []api.Request {
	var l []api.Request
	for _, n := range names {
		l = append(l, but(func(r *api.Request) { r.Subject = n }), but(func(r *api.Request) { r.Subject, r.Exts = n, nil }))
	}
	for _, p := range keys {
		l = append(l, but(func(r *api.Request) { r.Key = p }), but(func(r *api.Request) { r.Key, r.Exts = p, nil }))
	}
	for _, x := range lists {
		l = append(l, but(func(r *api.Request) { r.Exts = x }))
	}
	return l
}

// goods are requests of each sort that may be.
func goods() []api.Request {
	l := varied(probe.Names(), probe.Points(), probe.ExtLists())
	return append(l, plain(), api.Request{Key: probe.Base()}, api.Request{Subject: probe.Attrs(16), Key: probe.ZeroPoint(), Exts: probe.ExtRow(16)})
}

// wrongs are requests of each sort that may not.
func wrongs() []api.Request {
	return append(varied(probe.NoNames(), probe.NoPoints(), probe.NoExtLists()), api.Request{}, api.Request{Subject: probe.Named("a")})
}

// few are some of each sort that may be: as many as can be signed in no long time.
func few() []api.Request {
	l := []api.Request{plain(), but(func(r *api.Request) { r.Exts = nil }), {Key: probe.Base()}}
	for i, r := range goods() {
		if i%3 == 0 {
			l = append(l, r)
		}
	}
	return l
}

// signatures are those of each sort; they need not be anybody's.
func signatures() []api.Signature {
	most := probe.Plus(api.Digest{}, -1)
	return []api.Signature{{}, {R: probe.Small(1), S: probe.Small(128)}, {R: probe.Order(), S: most}, {R: most}, {R: api.Digest{0x7f}, S: api.Digest{0x80}}, {R: probe.Base().X, S: probe.Base().Y}}
}

// strangers are elements that are laid beside those that should be there, or in their places.
func strangers() []string {
	return []string{"05 00", "01 01 ff", "02 01 00", "02 01 01", "02 02 00 80", "03 01 00", "04 00", "06 03 55 04 03", "06 09 2a 86 48 86 f7 0d 01 09 0e", "0c 01 61", "13 01 61", "30 00", "31 00", "31 02 30 00", "30 0a 06 08 2a 86 48 ce 3d 04 03 02", "80 00", "a0 00", "a0 03 02 01 00", "a3 00", "00 00"}
}
