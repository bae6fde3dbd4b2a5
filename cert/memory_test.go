package cert_test

import (
	"bytes"
	"runtime"
	"slices"
	"sync"
	"testing"
	"time"

	"chancery/api"
	"chancery/cert"
	"chancery/probe"
)

// roomy is a copy of a certificate with spare room behind its lists; left tells whether all of it is as it was.
func roomy(c api.Cert) (given api.Cert, left func() bool) {
	spare := api.Attr{Type: 3, Value: "spare"}
	issuer, one := probe.RoomyWith([]api.Attr(c.Issuer), spare)
	subject, two := probe.RoomyWith([]api.Attr(c.Subject), spare)
	serial, leftSerial := probe.RoomyPieces(c.Serial)
	exts, leftExts := probe.RoomyExts(c.Exts)
	wasOne, wasTwo := slices.Clone(one), slices.Clone(two)
	given = c
	given.Serial, given.Issuer, given.Subject, given.Exts = serial[0], issuer, subject, exts
	return given, func() bool {
		return leftSerial() && leftExts() && slices.Equal(one, wasOne) && slices.Equal(two, wasTwo)
	}
}

// scribble writes over all lists of a certificate, and the spare room behind them.
func scribble(c api.Cert) {
	probe.Scribble(c.Serial, 0x77)
	probe.Scribble(c.Issuer, api.Attr{Type: 11, Value: "scribbled"})
	probe.Scribble(c.Subject, api.Attr{Type: 11, Value: "scribbled"})
	probe.ScribbleExts(c.Exts)
}

// P2: certificates are left as they are, spare room behind their lists too, those that may not be as well; nor does that room count, nor is anything kept.
func TestCertsAreLeft(t *testing.T) {
	for i, c := range slices.Concat(goods(), wrongs()) {
		given, left := roomy(c)
		may := cert.May(given)
		body, e1 := cert.Body(given)
		was := bytes.Clone(body)
		again, e2 := cert.Body(given)
		if !left() || may != mayBe(c) || (e1 == api.OK) != may || e1 != e2 {
			t.Fatalf("%.600s: left %t, may be %t, errors %d, %d", show(c), left(), may, e1, e2)
		}
		probe.Scribble(body, 0x55)
		if !left() || !bytes.Equal(again, was) {
			t.Fatalf("the bodies of %.600s share memory", show(c))
		}
		if i%9 == 0 {
			signedIsOwn(t, c)
		}
		scribble(given)
		if !bytes.Equal(again, was) {
			t.Fatalf("the body of %.600s shares its memory", show(c))
		}
	}
}

// signedIsOwn fails unless Sign leaves a certificate as it is, and answers memory of its own.
func signedIsOwn(t *testing.T, c api.Cert) {
	t.Helper()
	given, left := roomy(c)
	b, e1 := cert.Sign(given, small(5))
	was := bytes.Clone(b)
	again, e2 := cert.Sign(given, small(5))
	probe.Scribble(b, 0x55)
	if !left() || e1 != e2 || (e1 == api.OK) != mayBe(c) || !bytes.Equal(again, was) {
		t.Fatalf("Sign of %.600s: left %t, errors %d, %d", show(c), left(), e1, e2)
	}
	scribble(given)
	if !bytes.Equal(again, was) {
		t.Fatalf("the bytes of %.600s share its memory", show(c))
	}
}

// P2: bodies that are joined are left as they are, spare room behind them too, and not kept.
func TestBodiesAreLeft(t *testing.T) {
	l := couples()
	for _, b := range noElements() {
		l = append(l, couple{b, api.Signature{R: small(1), S: small(1)}})
	}
	for _, c := range l {
		given, left := probe.RoomyPieces(c.body)
		one, e1 := cert.Join(given[0], c.signature)
		was := bytes.Clone(one)
		two, e2 := cert.Join(given[0], c.signature)
		probe.Scribble(one, 0x55)
		if !left() || e1 != e2 || !bytes.Equal(two, was) {
			t.Fatalf("Join(%.600x): left %t, errors %d, %d", c.body, left(), e1, e2)
		}
		probe.ScribblePieces(given, 0x77)
		if !bytes.Equal(two, was) {
			t.Fatalf("Join(%.600x): the answer shares its memory", c.body)
		}
	}
}

// P2: bytes are left as they are, spare room behind them too, those that are nothing's as well; what is read is memory of its own.
func TestAnswersAreTheirOwn(t *testing.T) {
	for _, f := range faces(t) {
		f.ownOf(t)
	}
}

func (r reader[T]) ownOf(t *testing.T) {
	t.Helper()
	for _, b := range r.samples {
		want, _ := r.parse(b)
		part, whole := probe.Roomy(b)
		was := bytes.Clone(whole)
		one, e1 := r.read(part)
		two, e2 := r.read(part)
		r.scribble(one)
		three, e3 := r.read(part)
		if !bytes.Equal(whole, was) {
			t.Fatalf("%s: reading changes %.300x", r.what, b)
		}
		probe.Scribble(part, 0x55)
		if e1 != api.OK || e2 != api.OK || e3 != api.OK || !r.same(two, want) || !r.same(three, want) {
			t.Fatalf("%s: what is read of %.300x shares memory: %.300s, %.300s, errors %d, %d, %d", r.what, b, show(two), show(three), e1, e2, e3)
		}
		for _, near := range [][]byte{b[:len(b)-1], append(bytes.Clone(b), 0), b[1:]} {
			given, left := probe.RoomyPieces(near)
			if r.asLibrary(t, given[0]); !left() {
				t.Fatalf("%s: reading changes %.300x", r.what, near)
			}
		}
	}
}

// P2: Signed leaves the bytes as they are, spare room behind them too.
func TestSignedLeaves(t *testing.T) {
	for i, c := range few() {
		b := joinedBytes(couple{bodyBytes(c), librarySignature(t, small(5), bodyBytes(c))})
		if i%3 == 0 {
			b[len(b)-1]++
		}
		given, left := probe.RoomyPieces(b)
		one := cert.Signed(given[0], libraryPoint(t, small(5)))
		if two := cert.Signed(given[0], libraryPoint(t, small(5))); !left() || one != two || one != (i%3 != 0) {
			t.Errorf("Signed(%.600x): left %t, %t, %t", b, left(), one, two)
		}
	}
}

// P2: no two lists of one answer share memory: each may be written over, and made longer.
func TestListsOfOneAnswer(t *testing.T) {
	c := but(func(c *api.Cert) {
		c.Serial, c.Issuer, c.Subject, c.Exts = serials()[30], attrs(5), attrs(6), probe.ExtRow(4)
	})
	changes := []func(got *api.Cert){
		func(got *api.Cert) { probe.Scribble(got.Serial, 0x77); got.Serial = nil },
		func(got *api.Cert) {
			probe.Scribble(got.Issuer, api.Attr{Type: 11, Value: "scribbled"})
			got.Issuer = nil
		},
		func(got *api.Cert) {
			probe.Scribble(got.Subject, api.Attr{Type: 11, Value: "scribbled"})
			got.Subject = nil
		},
		func(got *api.Cert) { probe.ScribbleExts(got.Exts); got.Exts = nil },
	}
	empty := []func(want *api.Cert){
		func(want *api.Cert) { want.Serial = nil }, func(want *api.Cert) { want.Issuer = nil }, func(want *api.Cert) { want.Subject = nil }, func(want *api.Cert) { want.Exts = nil },
	}
	b := signed(t, c, small(5))
	for i, change := range changes {
		for _, read := range []func() (api.Cert, api.Errno){
			func() (api.Cert, api.Errno) { return cert.Decode(b) },
			func() (api.Cert, api.Errno) { return cert.ToBody(written(t, c)) },
		} {
			got, e := read()
			want := c
			change(&got)
			if empty[i](&want); e != api.OK || !sameCert(got, want) {
				t.Errorf("the list %d shares memory: %.600s, error %d", i, show(got), e)
			}
		}
	}
}

// P3: nil lists and empty ones are alike.
func TestNoLists(t *testing.T) {
	all := faces(t)
	want := written(t, api.Cert{Serial: []byte{5}, Key: base})
	for _, serial := range [][]byte{nil, {}, []byte("a")[:0]} {
		refuses(t, but(func(c *api.Cert) { c.Serial = serial }))
		notJoined(t, serial, api.Signature{}, api.ErrCert)
		by(t, "nothing", serial, base, false)
		for _, f := range all {
			f.none(t, "no bytes", serial)
		}
	}
	for _, n := range []api.Name{nil, {}, named("a")[:0]} {
		for _, l := range [][]api.Ext{nil, {}, probe.ExtRow(1)[:0]} {
			has(t, api.Cert{Serial: []byte{5}, Issuer: n, Subject: n, Key: base, Exts: l}, want)
		}
	}
	has(t, but(func(c *api.Cert) { c.Exts = []api.Ext{{Id: 19, Value: nil}} }), with(atExts, "a3 0b 30 09 30 07 06 03 55 1d 13 04 00"))
	has(t, but(func(c *api.Cert) { c.Exts = []api.Ext{{Id: 19, Value: []byte{}}} }), with(atExts, "a3 0b 30 09 30 07 06 03 55 1d 13 04 00"))
}

// P3, P5: the same is answered again, behind errors too, and no goroutine is left.
func TestNothingIsKept(t *testing.T) {
	before := runtime.NumGoroutine()
	bad, q, r := wrongs(), public(t, small(5)), certReader(t)
	for i, c := range few() {
		b := signed(t, c, small(5))
		refuses(t, bad[i%len(bad)])
		r.none(t, "one byte fewer", b[:len(b)-1])
		has(t, c, bodyBytes(c))
		by(t, "another key", b, base, false)
		by(t, "its key", b, q, true)
		if _, e := cert.Sign(c, api.Digest{}); e != api.ErrKey {
			t.Errorf("error %d", e)
		}
		if _, e := cert.Key(far); e != api.ErrPoint {
			t.Errorf("error %d", e)
		}
		if again := signed(t, c, small(5)); !bytes.Equal(again, b) {
			t.Fatalf("%.600x, and again %.600x", b, again)
		}
		by(t, "its key", b, q, true)
	}
	for range 100 { // an earlier test's may end meanwhile, but none begins
		if runtime.NumGoroutine() <= before {
			return
		}
		time.Sleep(10 * time.Millisecond)
	}
	t.Errorf("%d goroutines, ahead of it %d", runtime.NumGoroutine(), before)
}

// P3: the same is answered to several that ask at once.
func TestAtOnce(t *testing.T) {
	var group sync.WaitGroup
	q := public(t, small(5))
	for range 8 {
		group.Go(func() {
			c := but(func(c *api.Cert) { c.Exts = probe.ExtRow(5) })
			for range 20 {
				b, e1 := cert.Sign(c, small(5))
				got, e2 := cert.Decode(b)
				_, e3 := cert.Decode(b[1:])
				_, e4 := cert.Body(api.Cert{})
				p, e5 := cert.ToKey(keyBytes(q))
				if e1 != api.OK || e2 != api.OK || e3 != api.ErrCert || e4 != api.ErrCert || e5 != api.OK || p != q || !sameCert(got, c) || !cert.Signed(b, q) {
					t.Errorf("%s, errors %d, %d, %d, %d, %d", show(got), e1, e2, e3, e4, e5)
				}
			}
		})
	}
	group.Wait()
}

// P1: what is longer than an element's content may be is refused.
func TestVeryLong(t *testing.T) {
	long := make([]byte, api.MaxContent+1)
	for _, first := range []byte{0, 1} {
		long[0] = first
		refuses(t, but(func(c *api.Cert) { c.Serial = long }))
	}
	refuses(t, but(func(c *api.Cert) { c.Issuer = named(string(long)) }))
	refuses(t, but(func(c *api.Cert) { c.Exts = []api.Ext{{Id: 1, Value: long}} }))
	refuses(t, but(func(c *api.Cert) { c.Exts = slices.Repeat(probe.ExtRow(1), 1<<20) }))
}
