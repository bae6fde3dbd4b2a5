package request_test

import (
	"bytes"
	"testing"

	"chancery/api"
	"chancery/cert"
	"chancery/probe"
	"chancery/request"
)

// written is what Body tells.
func written(t *testing.T, r api.Request) []byte {
	t.Helper()
	b, e := request.Body(r)
	if e != api.OK {
		t.Fatalf("Body(%.600s): error %d", show(r), e)
	}
	return b
}

// P17.4: what ToBody takes is what Body tells of it, and no two requests have one body.
func TestThereAndBack(t *testing.T) {
	seen := map[string]api.Request{}
	for _, r := range goods() {
		b := written(t, r)
		got, e := request.ToBody(b)
		if e != api.OK || !same(got, r) || !request.May(got) || !bytes.Equal(written(t, got), b) {
			t.Fatalf("%.600s, written as %.600x, is read as %.600s, error %d", show(r), b, show(got), e)
		}
		if was, there := seen[string(b)]; there && !same(was, r) {
			t.Fatalf("%.600x is the body of %.600s and of %.600s", b, show(was), show(r))
		}
		seen[string(b)] = r
	}
}

// P17.4: Decode of what Make tells is the request, Check takes it by its own key alone; each call on what another one has made.
func TestMadeIsProven(t *testing.T) {
	for i, r := range few() {
		d := probe.Keys()[i%len(probe.Keys())]
		own := i%2 == 0
		if own {
			r.Key = public(d)
		}
		b := made(t, r, d)
		checks(t, "made", b, r, own || r.Key == public(d))
		got, e := request.Decode(b)
		if e != api.OK || !same(got, r) || !bytes.Equal(made(t, got, d), b) {
			t.Fatalf("%.600s, made by %x as %.600x, is read as %.600s, error %d", show(r), d, b, show(got), e)
		}
		body, s, e := cert.Split(b)
		if e != api.OK || !bytes.Equal(body, written(t, r)) || !bytes.Equal(joined(body, s), b) || !cert.Signed(b, public(d)) {
			t.Fatalf("%.600x, split into %.600x, error %d", b, body, e)
		}
		if got, e := request.ToBody(body); e != api.OK || !same(got, r) {
			t.Fatalf("ToBody(%.600x): %.600s, error %d", body, show(got), e)
		}
	}
}

// drawn is a request that looks like chance.
func drawn(draws *probe.Draws) api.Request {
	pick := func(n int) int { return int(draws.Next() % uint64(n)) }
	r := api.Request{Subject: probe.Names()[pick(len(probe.Names()))], Key: probe.Points()[pick(len(probe.Points()))]}
	for _, x := range probe.ExtRow(pick(17)) {
		x.Value = draws.Bytes(pick(200))
		r.Exts = append(r.Exts, x)
	}
	return r
}

// P17.4: the same of requests that look like chance, and of bytes that are one byte away from theirs.
func TestThereAndBackDrawn(t *testing.T) {
	const alphabet = "\x00\x01\x02\x03\x04\x06\x09\x0c\x0e\x13\x1d\x30\x31\x55\x80\x81\xa0\xa3\xff059Zaz"
	var draws probe.Draws
	bodies, whole := bodyReader(), requestReader()
	for i := range 200 {
		r := drawn(&draws)
		has(t, r, bodyBytes(r))
		body := written(t, r)
		b := joined(body, signatures()[i%len(signatures())])
		for range 15 {
			near := []byte(draws.Changed(string(body), alphabet))
			if bodies.AsShould(t, near) {
				if got, _ := request.ToBody(near); !bytes.Equal(written(t, got), near) {
					t.Fatalf("%.600x is written as %.600x", near, written(t, got))
				}
			}
			whole.AsShould(t, []byte(draws.Changed(string(b), alphabet)))
		}
	}
}
