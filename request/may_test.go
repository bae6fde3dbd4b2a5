package request_test

import (
	"testing"

	"chancery/api"
	"chancery/probe"
	"chancery/request"
)

// mayAsWords fails unless May, and Body, are as the chapter's words are.
func mayAsWords(t *testing.T, r api.Request) bool {
	t.Helper()
	want := mayBe(r)
	if got := request.May(r); got != want {
		t.Fatalf("May(%.600s): %t", show(r), got)
	}
	if !want {
		refuses(t, r)
	}
	return want
}

// refuses fails unless a request may not be, and nothing stands beside the errors.
func refuses(t *testing.T, r api.Request) {
	t.Helper()
	if b, e := request.Body(r); e != api.ErrRequest || len(b) > 0 {
		t.Fatalf("Body(%.600s): %.600x, error %d", show(r), b, e)
	}
	for _, d := range []api.Digest{five(), {}} {
		if b, e := request.Make(r, d); e != api.ErrRequest || len(b) > 0 {
			t.Fatalf("Make(%.600s, %x): %.600x, error %d", show(r), d, b, e)
		}
	}
}

// P17.1: requests of each sort that may be, and that may not.
func TestMay(t *testing.T) {
	for _, r := range goods() {
		if !mayAsWords(t, r) {
			t.Errorf("%.600s may not be", show(r))
		}
	}
	for _, r := range wrongs() {
		if mayAsWords(t, r) {
			t.Errorf("%.600s may be", show(r))
		}
	}
}

// P17.1: what is wrong with one part is wrong, whatever the others are.
func TestMayOfTwo(t *testing.T) {
	changes := []func(r *api.Request){
		func(r *api.Request) { r.Subject = probe.Attrs(17) },
		func(r *api.Request) { r.Subject = probe.Named("") },
		func(r *api.Request) { r.Key = api.Point{Inf: true} },
		func(r *api.Request) { r.Key.X[0]++ },
		func(r *api.Request) { r.Exts = probe.ExtRow(17) },
		func(r *api.Request) { r.Exts = []api.Ext{{Id: 17}, {Id: 17}} },
	}
	for _, one := range changes {
		for _, other := range changes {
			if mayAsWords(t, but(func(r *api.Request) { one(r); other(r) })) {
				t.Error("what is wrong twice may be")
			}
		}
	}
}

// P17.1: as many attributes and extensions as may be, and more; none of them, too.
func TestMayCounts(t *testing.T) {
	for n := range 40 {
		for _, r := range []api.Request{
			but(func(r *api.Request) { r.Subject = probe.Attrs(n) }),
			but(func(r *api.Request) { r.Exts = probe.ExtRow(n) }),
		} {
			if got := mayAsWords(t, r); got != (n <= 16) {
				t.Errorf("%d attributes, or extensions: %t", n, got)
			}
		}
	}
	if r := but(func(r *api.Request) { r.Subject, r.Exts = probe.Attrs(16), probe.LongExts() }); !mayAsWords(t, r) {
		t.Error("the longest request may not be")
	}
}

// P17.1: points by one bit that is another one.
func TestMayPoints(t *testing.T) {
	for bit := range 256 {
		for _, r := range []api.Request{
			but(func(r *api.Request) { r.Key.X = probe.Turned(r.Key.X, bit) }),
			but(func(r *api.Request) { r.Key.Y = probe.Turned(r.Key.Y, bit) }),
		} {
			mayAsWords(t, r)
		}
	}
	if mayAsWords(t, but(func(r *api.Request) { r.Key.Inf = true })) {
		t.Error("the far point, with coordinates, may be")
	}
}
