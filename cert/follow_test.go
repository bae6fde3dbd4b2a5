package cert_test

import (
	"bytes"
	"testing"

	"chancery/api"
	"chancery/cert"
	"chancery/probe"
)

// P16.6: what is read of bytes that were written is what was written; what is read, written again, is the bytes.
func TestThereAndBack(t *testing.T) {
	seen := map[string]api.Cert{}
	for _, c := range goods() {
		b := written(t, c)
		got, e := cert.ToBody(b)
		if e != api.OK || !sameCert(got, c) || !bytes.Equal(written(t, got), b) {
			t.Fatalf("%.600s, written as %.600x, is read as %.600s, error %d", show(c), b, show(got), e)
		}
		if was, there := seen[string(b)]; there && !sameCert(was, c) {
			t.Fatalf("%.600x is the body of %.600s and of %.600s", b, show(was), show(c))
		}
		seen[string(b)] = c
	}
	for _, c := range couples() {
		b := joinedOf(t, c)
		got, e := split(b)
		if e != api.OK || !sameCouple(got, c) || !bytes.Equal(joinedOf(t, got), b) {
			t.Fatalf("%.600s, joined as %.600x, is split into %.600s, error %d", show(c), b, show(got), e)
		}
	}
	for _, p := range probe.Points() {
		b, e1 := cert.Key(p)
		got, e2 := cert.ToKey(b)
		again, e3 := cert.Key(got)
		if e1 != api.OK || e2 != api.OK || e3 != api.OK || got != p || !bytes.Equal(again, b) {
			t.Fatalf("%s, written as %x, is read as %s, errors %d, %d, %d", show(p), b, show(got), e1, e2, e3)
		}
	}
}

// P16.6: what Sign tells is Signed with the key's point, and is the certificate, of each call on what another one has made.
func TestSignedIsSigned(t *testing.T) {
	for i, c := range few() {
		d := probe.Keys()[i%len(probe.Keys())]
		q := public(t, d)
		if i%2 == 0 {
			c.Key = q
		}
		b := signed(t, c, d)
		got, e := cert.Decode(b)
		if e != api.OK || !sameCert(got, c) || !cert.May(got) || !cert.Signed(b, q) {
			t.Fatalf("%.600s, signed by %x: %.600x, read as %.600s, error %d", show(c), d, b, show(got), e)
		}
		if again := signed(t, got, d); !bytes.Equal(again, b) {
			t.Fatalf("%.600x, signed again: %.600x", b, again)
		}
		parts, e := split(b)
		if e != api.OK || !bytes.Equal(parts.body, written(t, c)) || !bytes.Equal(joinedOf(t, parts), b) {
			t.Fatalf("%.600x, split into %.600s, error %d", b, show(parts), e)
		}
	}
}

// P16.6: certificates by one key for the next one, each signed by the one ahead alone.
func TestChain(t *testing.T) {
	var above api.Point
	var ahead api.Digest
	for i, d := range probe.Keys() {
		q := public(t, d)
		c := but(func(c *api.Cert) { c.Key = q })
		if i == 0 {
			above, ahead = q, d
		}
		b := signed(t, c, ahead)
		got, e := cert.Decode(b)
		if e != api.OK || got.Key != q || !cert.Signed(b, above) || cert.Signed(b, q) != (q == above) {
			t.Fatalf("%d: %s, error %d", i, show(got), e)
		}
		above, ahead = got.Key, d
	}
}

// drawn is a certificate that looks like chance.
func drawn(draws *probe.Draws) api.Cert {
	pick := func(n int) int { return int(draws.Next() % uint64(n)) }
	c := api.Cert{Issuer: probe.Names()[pick(len(probe.Names()))], Subject: probe.Names()[pick(len(probe.Names()))], Key: probe.Points()[pick(len(probe.Points()))]}
	c.Serial = draws.Bytes(1 + pick(20))
	c.Serial[0] = c.Serial[0]&0x7f | 1
	c.From = api.MinTime + pick(api.MaxTime-api.MinTime)
	c.To = c.From + pick(api.MaxTime-c.From+1)
	for _, x := range probe.ExtRow(pick(17)) {
		x.Value = draws.Bytes(pick(200))
		c.Exts = append(c.Exts, x)
	}
	return c
}

// P16.6: the same of certificates that look like chance, and of bytes that are one byte away from theirs.
func TestThereAndBackDrawn(t *testing.T) {
	var draws probe.Draws
	bodies, whole := bodyReader(), certReader(t)
	for i := range 200 {
		c := drawn(&draws)
		has(t, c, bodyBytes(c))
		body := written(t, c)
		b := joinedOf(t, couple{body, signatures()[i%len(signatures())]})
		for range 15 {
			near := []byte(draws.Changed(string(body), alphabet))
			if bodies.AsShould(t, near) {
				if got, _ := cert.ToBody(near); !bytes.Equal(written(t, got), near) {
					t.Fatalf("%.600x is written as %.600x", near, written(t, got))
				}
			}
			whole.AsShould(t, []byte(draws.Changed(string(b), alphabet)))
		}
	}
}

const alphabet = "\x00\x01\x02\x03\x04\x06\x0c\x13\x17\x18\x30\x31\x55\x80\x81\xa0\xa3\xff059Zaz"
