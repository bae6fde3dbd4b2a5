package request_test

import (
	"bytes"
	"slices"
	"testing"

	"chancery/api"
	"chancery/cert"
	"chancery/probe"
	"chancery/request"
	"chancery/sign"
)

// checks fails unless Check answers the request, if it is proven, and else ErrProof with nothing beside.
func checks(t *testing.T, what string, b []byte, r api.Request, proven bool) {
	t.Helper()
	wrong := api.OK
	if !proven {
		r, wrong = api.Request{}, api.ErrProof
	}
	if got, e := request.Check(b); e != wrong || !same(got, r) {
		t.Fatalf("%s: Check(%.600x): %.600s, error %d; want %.600s, error %d", what, b, show(got), e, show(r), wrong)
	}
}

// P17.3: the chapter's examples.
func TestExamples(t *testing.T) {
	n, d := probe.Named("a"), five()
	own, other := api.Request{Subject: n, Key: public(d)}, api.Request{Subject: n, Key: probe.Base()}
	if b, e := request.Body(other); e != api.OK || !bytes.HasSuffix(b, raw("a0 00")) {
		t.Errorf("%x, error %d", b, e)
	}
	if request.May(api.Request{Subject: n, Key: api.Point{Inf: true}}) || request.May(api.Request{Subject: n, Key: probe.Base(), Exts: []api.Ext{{Id: 17}, {Id: 17}}}) {
		t.Error("what may not be may be")
	}
	checks(t, "its own key", made(t, own, d), own, true)
	checks(t, "another key", made(t, other, d), other, false)
	if r, e := request.Decode(made(t, other, d)); e != api.OK || !same(r, other) {
		t.Errorf("%s, error %d", show(r), e)
	}
	if r, e := request.Check(raw("30 00")); e != api.ErrRequest || !same(r, api.Request{}) {
		t.Errorf("%s, error %d", show(r), e)
	}
}

// P17.3: by its own key, and by each other one; the key across, too.
func TestCheckKeys(t *testing.T) {
	for _, d := range probe.Keys() {
		for _, l := range [][]api.Ext{nil, probe.ExtRow(3)} {
			r := api.Request{Subject: probe.Attrs(3), Key: public(d), Exts: l}
			for _, other := range probe.Keys() {
				b := signed(r, other)
				checks(t, "a key", b, r, other == d)
				if got, e := request.Decode(b); e != api.OK || !same(got, r) {
					t.Fatalf("Decode(%.600x): %.600s, error %d", b, show(got), e)
				}
			}
			r.Key = probe.Across(r.Key)
			checks(t, "the point across", signed(r, d), r, false)
		}
	}
}

// P17.3: Decode does not look at the signature; Check takes none of these.
func TestAnySignature(t *testing.T) {
	for _, r := range goods() {
		for _, s := range signatures() {
			b := joined(bodyBytes(r), s)
			if got, e := request.Decode(b); e != api.OK || !same(got, r) {
				t.Fatalf("Decode(%.600x): %.600s, error %d", b, show(got), e)
			}
			if len(b) < 1000 {
				checks(t, "nobody's signature", b, r, false)
			}
		}
	}
}

// P17.3: one bit changed, anywhere in the bytes, and in the numbers of the signature.
func TestCheckBits(t *testing.T) {
	reader, unproven := checkReader(), 0
	for _, r := range []api.Request{plain(), but(func(r *api.Request) { r.Exts = nil })} {
		b := signed(r, five())
		checks(t, "as it is", b, r, true)
		for at := range b {
			for bit := range 8 {
				b[at] ^= 1 << bit
				if reader.AsShould(t, b) {
					checks(t, "a bit changed", b, r, false)
					unproven++
				}
				b[at] ^= 1 << bit
			}
		}
	}
	if unproven == 0 {
		t.Error("no bit leaves a request")
	}
	body := bodyBytes(plain())
	_, s, _ := cert.Split(signed(plain(), five()))
	for bit := range 256 {
		checks(t, "a bit of R", joined(body, api.Signature{R: probe.Turned(s.R, bit), S: s.S}), plain(), false)
		checks(t, "a bit of S", joined(body, api.Signature{R: s.R, S: probe.Turned(s.S, bit)}), plain(), false)
	}
	checks(t, "changed over", joined(body, api.Signature{R: s.S, S: s.R}), plain(), false)
	for _, x := range probe.NoKeys() {
		checks(t, "R out of bounds", joined(body, api.Signature{R: x, S: s.S}), plain(), false)
		checks(t, "S out of bounds", joined(body, api.Signature{R: s.R, S: x}), plain(), false)
	}
}

// P17.3: a signature of something else: of another request by the same key, of a part of the body, of all the bytes.
func TestCheckOthers(t *testing.T) {
	body := bodyBytes(plain())
	for what, text := range map[string][]byte{
		"nothing":                   nil,
		"what is in the body":       body[3:],
		"a byte fewer":              body[:len(body)-1],
		"a byte more":               append(bytes.Clone(body), 0),
		"the body, twice":           append(bytes.Clone(body), body...),
		"the bytes":                 signed(plain(), five()),
		"another subject":           bodyBytes(but(func(r *api.Request) { r.Subject = probe.Named("b") })),
		"another key":               bodyBytes(but(func(r *api.Request) { r.Key = probe.Base() })),
		"no extensions":             bodyBytes(but(func(r *api.Request) { r.Exts = nil })),
		"another extension's Value": bodyBytes(but(func(r *api.Request) { r.Exts = []api.Ext{{Id: 17, Value: raw("30 01")}} })),
	} {
		checks(t, what, joined(body, sure(sign.Sign(five(), text))), plain(), false)
	}
	checks(t, "the body", joined(body, sure(sign.Sign(five(), body))), plain(), true)
}

// noRequest fails unless these are no request's bytes.
func noRequest(t *testing.T, what string, b []byte) {
	t.Helper()
	requestReader().None(t, what, b)
	checkReader().None(t, what, b)
}

// P17.3: a part of what is joined that is missing, that stands there twice, or elsewhere; another algorithm.
func TestDecodeParts(t *testing.T) {
	parts := []string{known[0].body, ecdsaWithSHA256, known[0].signature}
	checks(t, "as it is", of(parts), known[0].r, true)
	for i, part := range parts {
		noRequest(t, "a part missing", of(slices.Delete(slices.Clone(parts), i, i+1)))
		noRequest(t, "a part twice", of(slices.Insert(slices.Clone(parts), i, part)))
		noRequest(t, "a part once more at the end", of(append(slices.Clone(parts), part)))
		noRequest(t, "a part alone", raw(part))
		noRequest(t, "parts missing at the end", of(parts[:i]))
		for j := range i {
			l := slices.Clone(parts)
			l[i], l[j] = l[j], l[i]
			noRequest(t, "parts changed over", of(l))
		}
	}
	for _, algorithm := range []string{
		"", "30 00", "05 00", "30 0c 06 08 2a 86 48 ce 3d 04 03 02 05 00", "30 0a 06 08 2a 86 48 ce 3d 04 03 03", "30 09 06 07 2a 86 48 ce 3d 04 01", "30 09 06 07 2a 86 48 ce 3d 02 01",
		"30 0d 06 09 2a 86 48 86 f7 0d 01 01 0b 05 00", "30 05 06 03 2b 65 70", "31 0a 06 08 2a 86 48 ce 3d 04 03 02", "06 08 2a 86 48 ce 3d 04 03 02", "30 81 0a 06 08 2a 86 48 ce 3d 04 03 02",
	} {
		noRequest(t, "another algorithm", of([]string{parts[0], algorithm, parts[2]}))
	}
	b := of(parts)
	noRequest(t, "within another one", probe.Put(0x30, b))
	noRequest(t, "another tag", append([]byte{0x31}, b[1:]...))
	noRequest(t, "joined twice", joined(b, sure(sign.Sign(five(), b))))
}

// P17.3: bits that are no signature, and bits that are unused.
func TestDecodeBits(t *testing.T) {
	for what, digits := range map[string]string{
		"none":                      "",
		"no content":                "03 00",
		"no bits":                   "03 01 00",
		"an unused bit":             "03 0a 01 30 07 02 01 01 02 02 00 80",
		"seven unused bits":         "03 0a 07 30 07 02 01 01 02 02 00 80",
		"without the unused bits":   "03 09 30 07 02 01 01 02 02 00 80",
		"octets":                    "04 0a 00 30 07 02 01 01 02 02 00 80",
		"the signature alone":       "30 07 02 01 01 02 02 00 80",
		"a byte behind":             "03 0b 00 30 07 02 01 01 02 02 00 80 00",
		"another tag":               "03 0a 00 31 07 02 01 01 02 02 00 80",
		"no number":                 "03 03 00 30 00",
		"one number":                "03 06 00 30 03 02 01 01",
		"three numbers":             "03 0d 00 30 0a 02 01 01 02 02 00 80 02 01 01",
		"R below 0":                 "03 0a 00 30 07 02 01 80 02 02 00 80",
		"S with a byte 0 ahead":     "03 0a 00 30 07 02 01 01 02 02 00 7f",
		"a length not the shortest": "03 0b 00 30 81 07 02 01 01 02 02 00 80",
		"another one":               "03 81 0a 00 30 07 02 01 01 02 02 00 80",
	} {
		noRequest(t, what, of([]string{known[0].body, ecdsaWithSHA256, digits}))
	}
	if !requestReader().AsShould(t, of([]string{known[0].body, ecdsaWithSHA256, bits})) {
		t.Error("the bits are not taken")
	}
}

// P17.3: what is joined, and signed by a key that it has, but of no request's body: a certificate's, and others.
func TestDecodeOfOthers(t *testing.T) {
	c := api.Cert{Serial: []byte{5}, Issuer: probe.Named("a"), To: 100, Subject: probe.Named("a"), Key: public(five()), Exts: plain().Exts}
	whole := sure(cert.Sign(c, five()))
	noRequest(t, "a certificate", whole)
	noBody(t, "a certificate's body", sure(cert.Body(c)))
	noBody(t, "a certificate's bytes", whole)
	noBody(t, "a request's bytes", signed(plain(), five()))
	for _, b := range [][]byte{raw("05 00"), raw("30 00"), raw("04 00"), raw(fivesKey), raw(nameA), raw("02 01 00"), probe.Put(0x30, raw("02 01 00")), probe.Put(0x04, bodyBytes(plain())), probe.Put(0x30, bodyBytes(plain()))} {
		noRequest(t, "joined, but of no body", joined(b, sure(sign.Sign(five(), b))))
		noBody(t, "no body", b)
	}
	noRequest(t, "a body alone", bodyBytes(plain()))
	noRequest(t, "nothing", nil)
	if _, e := cert.Decode(signed(plain(), five())); e != api.ErrCert {
		t.Errorf("a request is a certificate: error %d", e)
	}
}
