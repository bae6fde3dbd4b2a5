package request_test

import (
	"bytes"
	"testing"

	"chancery/api"
	"chancery/probe"
	"chancery/request"
)

// made is what Make tells.
func made(t *testing.T, r api.Request, d api.Digest) []byte {
	t.Helper()
	b, e := request.Make(r, d)
	if e != api.OK {
		t.Fatalf("Make(%.600s, %x): error %d", show(r), d, e)
	}
	return b
}

// P17.2, P17.3: requests' bytes that are written out; the first one alone is signed by its own key.
func TestKnownRequests(t *testing.T) {
	for i, c := range known {
		want := raw(c.head + c.body + ecdsaWithSHA256 + c.signature)
		if b := made(t, c.r, five()); !bytes.Equal(b, want) {
			t.Errorf("%s: %x; want %x", show(c.r), b, want)
		}
		if got, e := request.Decode(want); e != api.OK || !same(got, c.r) {
			t.Errorf("Decode(%x): %s, error %d", want, show(got), e)
		}
		checks(t, "written out", want, c.r, i == 0)
	}
}

// P17.2: requests of each sort by keys of each sort, their own and others, as the layers below have it.
func TestMake(t *testing.T) {
	for i, r := range few() {
		for j, d := range probe.Keys() {
			if (i+j)%3 > 0 && i > 3 {
				continue
			}
			if (i+j)%2 == 0 {
				r.Key = public(d)
			}
			want := signed(r, d)
			if b := made(t, r, d); !bytes.Equal(b, want) {
				t.Fatalf("Make(%.600s, %x): %.600x; want %.600x", show(r), d, b, want)
			}
		}
	}
}

// P17.2: the longest requests.
func TestMakeLongest(t *testing.T) {
	r := but(func(r *api.Request) { r.Subject, r.Exts = probe.Attrs(16), probe.LongExts() })
	b := made(t, r, five())
	if !bytes.Equal(b, signed(r, five())) || b[1] != 0x83 {
		t.Errorf("%.600x", b)
	}
	if got, e := request.Decode(b); e != api.OK || !same(got, r) {
		t.Errorf("error %d", e)
	}
	checks(t, "the longest", b, r, true)
}

// P17.2: what is no key; a request that may not be is told ahead of it.
func TestMakeErrors(t *testing.T) {
	for _, d := range probe.NoKeys() {
		for _, r := range few()[:12] {
			if b, e := request.Make(r, d); e != api.ErrKey || len(b) > 0 {
				t.Errorf("Make(%.600s, %x): %x, error %d", show(r), d, b, e)
			}
		}
		for _, r := range wrongs() {
			if b, e := request.Make(r, d); e != api.ErrRequest || len(b) > 0 {
				t.Errorf("Make(%.600s, %x): %x, error %d", show(r), d, b, e)
			}
		}
	}
	for _, d := range []api.Digest{probe.Small(1), probe.Plus(probe.Order(), -1)} { // the least, and the greatest
		if b := made(t, plain(), d); !bytes.Equal(b, signed(plain(), d)) {
			t.Errorf("by %x: %x", d, b)
		}
	}
}
