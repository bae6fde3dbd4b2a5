package cert_test

import (
	"bytes"
	"runtime"
	"slices"
	"sync"
	"testing"
	"time"

	"chancery/api"
	"chancery/cert"
	"chancery/probe"
)

// roomy is a copy of a certificate with spare room behind its lists; left tells whether all of it is as it was.
func roomy(c api.Cert) (given api.Cert, left func() bool) {
	serial, leftSerial := probe.RoomyPieces(c.Serial)
	issuer, leftIssuer := probe.RoomyName(c.Issuer)
	subject, leftSubject := probe.RoomyName(c.Subject)
	exts, leftExts := probe.RoomyExts(c.Exts)
	given = c
	given.Serial, given.Issuer, given.Subject, given.Exts = serial[0], issuer, subject, exts
	return given, func() bool { return leftSerial() && leftIssuer() && leftSubject() && leftExts() }
}

// scribble writes over all lists of a certificate, and the spare room behind them.
func scribble(c api.Cert) {
	probe.Scribble(c.Serial, 0x77)
	probe.ScribbleName(c.Issuer)
	probe.ScribbleName(c.Subject)
	probe.ScribbleExts(c.Exts)
}

// writer is a call that writes certificates.
func writer(what string, write func(c api.Cert) ([]byte, api.Errno)) probe.Writer[api.Cert] {
	return probe.Writer[api.Cert]{What: what, Write: write, May: mayBe, Roomy: roomy, Scribble: scribble}
}

// P2: certificates are left as they are, spare room behind their lists too, those that may not be as well; nor does that room count, nor is anything kept.
func TestCertsAreLeft(t *testing.T) {
	sign := writer("Sign", func(c api.Cert) ([]byte, api.Errno) { return cert.Sign(c, probe.Small(5)) })
	for i, c := range slices.Concat(goods(), wrongs()) {
		if given, left := roomy(c); cert.May(given) != mayBe(c) || !left() {
			t.Fatalf("May(%.600s): left %t", show(c), left())
		}
		writer("Body", cert.Body).Own(t, c)
		if i%9 == 0 {
			sign.Own(t, c)
		}
	}
}

// P2: bodies that are joined are left as they are, spare room behind them too, and not kept.
func TestBodiesAreLeft(t *testing.T) {
	l := couples()
	for _, b := range noElements() {
		l = append(l, couple{b, api.Signature{R: probe.Small(1), S: probe.Small(1)}})
	}
	for _, c := range l {
		given, left := probe.RoomyPieces(c.body)
		one, e1 := cert.Join(given[0], c.signature)
		was := bytes.Clone(one)
		two, e2 := cert.Join(given[0], c.signature)
		probe.Scribble(one, 0x55)
		if !left() || e1 != e2 || !bytes.Equal(two, was) {
			t.Fatalf("Join(%.600x): left %t, errors %d, %d", c.body, left(), e1, e2)
		}
		probe.ScribblePieces(given, 0x77)
		if !bytes.Equal(two, was) {
			t.Fatalf("Join(%.600x): the answer shares its memory", c.body)
		}
	}
}

// P2: bytes are left as they are, spare room behind them too, those that are nothing's as well; what is read is memory of its own.
func TestAnswersAreTheirOwn(t *testing.T) {
	for _, f := range faces(t) {
		f.Own(t)
	}
}

// P2: Signed leaves the bytes as they are, spare room behind them too.
func TestSignedLeaves(t *testing.T) {
	for i, c := range few() {
		b := joinedBytes(couple{bodyBytes(c), librarySignature(t, probe.Small(5), bodyBytes(c))})
		if i%3 == 0 {
			b[len(b)-1]++
		}
		given, left := probe.RoomyPieces(b)
		one := cert.Signed(given[0], libraryPoint(t, probe.Small(5)))
		if two := cert.Signed(given[0], libraryPoint(t, probe.Small(5))); !left() || one != two || one != (i%3 != 0) {
			t.Errorf("Signed(%.600x): left %t, %t, %t", b, left(), one, two)
		}
	}
}

// P2: no two lists of one answer share memory: each may be written over, and made longer.
func TestListsOfOneAnswer(t *testing.T) {
	c := but(func(c *api.Cert) {
		c.Serial, c.Issuer, c.Subject, c.Exts = serials()[30], probe.Attrs(5), probe.Attrs(6), probe.ExtRow(4)
	})
	changes := []func(got *api.Cert){
		func(got *api.Cert) { probe.Scribble(got.Serial, 0x77); got.Serial = nil },
		func(got *api.Cert) {
			probe.ScribbleName(got.Issuer)
			got.Issuer = nil
		},
		func(got *api.Cert) {
			probe.ScribbleName(got.Subject)
			got.Subject = nil
		},
		func(got *api.Cert) { probe.ScribbleExts(got.Exts); got.Exts = nil },
	}
	empty := []func(want *api.Cert){
		func(want *api.Cert) { want.Serial = nil }, func(want *api.Cert) { want.Issuer = nil }, func(want *api.Cert) { want.Subject = nil }, func(want *api.Cert) { want.Exts = nil },
	}
	b := signed(t, c, probe.Small(5))
	for i, change := range changes {
		for _, read := range []func() (api.Cert, api.Errno){
			func() (api.Cert, api.Errno) { return cert.Decode(b) },
			func() (api.Cert, api.Errno) { return cert.ToBody(written(t, c)) },
		} {
			got, e := read()
			want := c
			change(&got)
			if empty[i](&want); e != api.OK || !sameCert(got, want) {
				t.Errorf("the list %d shares memory: %.600s, error %d", i, show(got), e)
			}
		}
	}
}

// P3: nil lists and empty ones are alike.
func TestNoLists(t *testing.T) {
	all := faces(t)
	want := written(t, api.Cert{Serial: []byte{5}, Key: base})
	for _, serial := range [][]byte{nil, {}, []byte("a")[:0]} {
		refuses(t, but(func(c *api.Cert) { c.Serial = serial }))
		notJoined(t, serial, api.Signature{}, api.ErrCert)
		by(t, "nothing", serial, base, false)
		for _, f := range all {
			f.None(t, "no bytes", serial)
		}
	}
	for _, n := range []api.Name{nil, {}, probe.Named("a")[:0]} {
		for _, l := range [][]api.Ext{nil, {}, probe.ExtRow(1)[:0]} {
			has(t, api.Cert{Serial: []byte{5}, Issuer: n, Subject: n, Key: base, Exts: l}, want)
		}
	}
	has(t, but(func(c *api.Cert) { c.Exts = []api.Ext{{Id: 19, Value: nil}} }), with(atExts, "a3 0b 30 09 30 07 06 03 55 1d 13 04 00"))
	has(t, but(func(c *api.Cert) { c.Exts = []api.Ext{{Id: 19, Value: []byte{}}} }), with(atExts, "a3 0b 30 09 30 07 06 03 55 1d 13 04 00"))
}

// P3, P5: the same is answered again, behind errors too, and no goroutine is left.
func TestNothingIsKept(t *testing.T) {
	before := runtime.NumGoroutine()
	bad, q, r := wrongs(), public(t, probe.Small(5)), certReader(t)
	for i, c := range few() {
		b := signed(t, c, probe.Small(5))
		refuses(t, bad[i%len(bad)])
		r.None(t, "one byte fewer", b[:len(b)-1])
		has(t, c, bodyBytes(c))
		by(t, "another key", b, base, false)
		by(t, "its key", b, q, true)
		if _, e := cert.Sign(c, api.Digest{}); e != api.ErrKey {
			t.Errorf("error %d", e)
		}
		if _, e := cert.Key(api.Point{Inf: true}); e != api.ErrPoint {
			t.Errorf("error %d", e)
		}
		if again := signed(t, c, probe.Small(5)); !bytes.Equal(again, b) {
			t.Fatalf("%.600x, and again %.600x", b, again)
		}
		by(t, "its key", b, q, true)
	}
	for range 100 { // an earlier test's may end meanwhile, but none begins
		if runtime.NumGoroutine() <= before {
			return
		}
		time.Sleep(10 * time.Millisecond)
	}
	t.Errorf("%d goroutines, ahead of it %d", runtime.NumGoroutine(), before)
}

// P3: the same is answered to several that ask at once.
func TestAtOnce(t *testing.T) {
	var group sync.WaitGroup
	q := public(t, probe.Small(5))
	for range 8 {
		group.Go(func() {
			c := but(func(c *api.Cert) { c.Exts = probe.ExtRow(5) })
			for range 20 {
				b, e1 := cert.Sign(c, probe.Small(5))
				got, e2 := cert.Decode(b)
				_, e3 := cert.Decode(b[1:])
				_, e4 := cert.Body(api.Cert{})
				p, e5 := cert.ToKey(keyBytes(q))
				if e1 != api.OK || e2 != api.OK || e3 != api.ErrCert || e4 != api.ErrCert || e5 != api.OK || p != q || !sameCert(got, c) || !cert.Signed(b, q) {
					t.Errorf("%s, errors %d, %d, %d, %d, %d", show(got), e1, e2, e3, e4, e5)
				}
			}
		})
	}
	group.Wait()
}

// P1: what is longer than an element's content may be is refused.
func TestVeryLong(t *testing.T) {
	long := make([]byte, api.MaxContent+1)
	for _, first := range []byte{0, 1} {
		long[0] = first
		refuses(t, but(func(c *api.Cert) { c.Serial = long }))
	}
	refuses(t, but(func(c *api.Cert) { c.Issuer = probe.Named(string(long)) }))
	refuses(t, but(func(c *api.Cert) { c.Exts = []api.Ext{{Id: 1, Value: long}} }))
	refuses(t, but(func(c *api.Cert) { c.Exts = slices.Repeat(probe.ExtRow(1), 1<<20) }))
}
