package request_test

import (
	"bytes"
	"runtime"
	"slices"
	"sync"
	"testing"
	"time"

	"chancery/api"
	"chancery/probe"
	"chancery/request"
)

// roomy is a copy of a request with spare room behind its lists; left tells whether all of it is as it was.
func roomy(r api.Request) (given api.Request, left func() bool) {
	subject, leftSubject := probe.RoomyName(r.Subject)
	exts, leftExts := probe.RoomyExts(r.Exts)
	return api.Request{Subject: subject, Key: r.Key, Exts: exts}, func() bool { return leftSubject() && leftExts() }
}

// writer is a call that writes requests.
func writer(what string, write func(r api.Request) ([]byte, api.Errno)) probe.Writer[api.Request] {
	return probe.Writer[api.Request]{What: what, Write: write, May: mayBe, Roomy: roomy, Scribble: scribble}
}

// P2: requests are left as they are, spare room behind their lists too, those that may not be as well; nor does that room count, nor is anything kept.
func TestRequestsAreLeft(t *testing.T) {
	makes := writer("Make", func(r api.Request) ([]byte, api.Errno) { return request.Make(r, five()) })
	for i, r := range slices.Concat(goods(), wrongs()) {
		if given, left := roomy(r); request.May(given) != mayBe(r) || !left() {
			t.Fatalf("May(%.600s): left %t", show(r), left())
		}
		writer("Body", request.Body).Own(t, r)
		if i%3 == 0 {
			makes.Own(t, r)
		}
	}
}

// P2: bytes are left as they are, spare room behind them too, those that are nothing's as well; what is read is memory of its own.
func TestAnswersAreTheirOwn(t *testing.T) {
	for _, f := range faces() {
		f.Own(t)
	}
}

// P2: no two lists of one answer share memory: each may be written over, and made longer.
func TestListsOfOneAnswer(t *testing.T) {
	r := but(func(r *api.Request) { r.Subject, r.Exts = probe.Attrs(5), probe.ExtRow(4) })
	b := made(t, r, five())
	for what, read := range map[string]func() (api.Request, api.Errno){
		"ToBody": func() (api.Request, api.Errno) { return request.ToBody(written(t, r)) },
		"Decode": func() (api.Request, api.Errno) { return request.Decode(b) },
		"Check":  func() (api.Request, api.Errno) { return request.Check(b) },
	} {
		got, e := read()
		probe.ScribbleName(got.Subject)
		if e != api.OK || !probe.SameExts(got.Exts, r.Exts) {
			t.Errorf("%s: the extensions share the subject's memory: %.600s, error %d", what, show(got), e)
		}
		got, e = read()
		probe.ScribbleExts(got.Exts)
		if e != api.OK || !slices.Equal(got.Subject, r.Subject) {
			t.Errorf("%s: the subject shares the extensions' memory: %.600s, error %d", what, show(got), e)
		}
		for i := range r.Exts {
			got, _ = read()
			probe.Scribble(got.Exts[i].Value, 0x77)
			for j, x := range got.Exts {
				if i != j && !probe.SameExt(x, r.Exts[j]) {
					t.Errorf("%s: the Values %d and %d share memory", what, i, j)
				}
			}
		}
	}
}

// P3: nil lists and empty ones are alike.
func TestNoLists(t *testing.T) {
	want := made(t, api.Request{Key: probe.Base()}, five())
	for _, n := range []api.Name{nil, {}, probe.Named("a")[:0]} {
		for _, l := range [][]api.Ext{nil, {}, probe.ExtRow(1)[:0]} {
			r := api.Request{Subject: n, Key: probe.Base(), Exts: l}
			has(t, r, raw(known[1].body))
			if b := made(t, r, five()); !bytes.Equal(b, want) {
				t.Errorf("%s: %x", show(r), b)
			}
		}
	}
	for _, value := range [][]byte{nil, {}, []byte("a")[:0]} {
		has(t, but(func(r *api.Request) { r.Exts = []api.Ext{{Id: 17, Value: value}} }), with(atExts, asked(raw("30 09 30 07 06 03 55 1d 11 04 00"))))
	}
	for _, b := range [][]byte{nil, {}, []byte("a")[:0]} {
		noBody(t, "nothing", b)
		noRequest(t, "nothing", b)
	}
}

// P3, P5: the same is answered again, behind errors too, and no goroutine is left.
func TestNothingIsKept(t *testing.T) {
	before := runtime.NumGoroutine()
	bad := wrongs()
	for i, r := range few() {
		r.Key = public(five())
		b := made(t, r, five())
		refuses(t, bad[i%len(bad)])
		noRequest(t, "one byte fewer", b[:len(b)-1])
		has(t, r, bodyBytes(r))
		checks(t, "another key", signed(r, probe.Small(6)), r, false)
		checks(t, "its own key", b, r, true)
		if _, e := request.Make(r, api.Digest{}); e != api.ErrKey {
			t.Errorf("error %d", e)
		}
		if again := made(t, r, five()); !bytes.Equal(again, b) {
			t.Fatalf("%.600x, and again %.600x", b, again)
		}
		checks(t, "its own key", b, r, true)
	}
	for range 100 { // an earlier test's may end meanwhile, but none begins
		if runtime.NumGoroutine() <= before {
			return
		}
		time.Sleep(10 * time.Millisecond)
	}
	t.Errorf("%d goroutines, ahead of it %d", runtime.NumGoroutine(), before)
}

// P3: the same is answered to several that ask at once.
func TestAtOnce(t *testing.T) {
	var group sync.WaitGroup
	for range 8 {
		group.Go(func() {
			r := but(func(r *api.Request) { r.Exts = probe.ExtRow(5) })
			for range 20 {
				b, e1 := request.Make(r, five())
				got, e2 := request.Check(b)
				_, e3 := request.Decode(b[1:])
				_, e4 := request.Body(api.Request{})
				body, e5 := request.Body(r)
				back, e6 := request.ToBody(body)
				if e1 != api.OK || e2 != api.OK || e3 != api.ErrRequest || e4 != api.ErrRequest || e5 != api.OK || e6 != api.OK || !same(got, r) || !same(back, r) {
					t.Errorf("%s, errors %d, %d, %d, %d, %d, %d", show(got), e1, e2, e3, e4, e5, e6)
				}
			}
		})
	}
	group.Wait()
}

// P1: what is longer than an element's content may be is refused.
func TestVeryLong(t *testing.T) {
	long := make([]byte, api.MaxContent+1)
	refuses(t, but(func(r *api.Request) { r.Subject = probe.Named(string(long)) }))
	refuses(t, but(func(r *api.Request) { r.Exts = []api.Ext{{Id: 1, Value: long}} }))
	refuses(t, but(func(r *api.Request) { r.Exts = slices.Repeat(probe.ExtRow(1), 1<<20) }))
}
