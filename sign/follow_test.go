package sign_test

import (
	"bytes"
	"testing"

	"chancery/api"
	"chancery/probe"
	"chancery/sign"
)

// P11.6: what Sign tells, Verify takes, with the key's point, as it is and with n - S; however both texts are cut.
func TestSignedIsTaken(t *testing.T) {
	for i, d := range keys() {
		q := public(t, d)
		for j, text := range texts() {
			s := signed(t, d, text)
			across := api.Signature{R: s.R, S: less(s.S)}
			pieces := cuts(text)[(i+j)%len(cuts(text))]
			takes(t, "S", true, q, s, text)
			takes(t, "n - S", true, q, across, text)
			takes(t, "S, cut", true, q, s, pieces...)
			takes(t, "n - S, cut", true, q, across, pieces...)
			takes(t, "cut, and more", false, q, s, append(pieces, []byte("more"))...)
		}
	}
}

// P11.6: it is taken with no other key's point.
func TestSignedIsTakenByNoOther(t *testing.T) {
	l := chance(12)
	for i, d := range l {
		s := signed(t, d, d[:])
		for j, other := range l {
			takes(t, "another key", i == j, public(t, other), s, d[:])
			takes(t, "another text", i == j, public(t, d), s, other[:])
		}
	}
}

// P11.6: keys and texts that look like chance, from signing by way of the bytes to verifying.
func TestThroughBytes(t *testing.T) {
	var draws probe.Draws
	for i, d := range chance(60) {
		text := draws.Bytes(i * 7)
		b := sign.Encode(signed(t, d, text))
		s, e := sign.Decode(b)
		is(t, "through bytes", s, e, signed(t, d, text))
		takes(t, "through bytes", true, public(t, d), s, text)
		if again := sign.Encode(s); !bytes.Equal(again, b) {
			t.Errorf("%x and %x", b, again)
		}
	}
}

// P11.6: Decode of Encode is the signature, whatever its numbers.
func TestDecodeOfEncode(t *testing.T) {
	var draws probe.Draws
	for _, r := range wide() {
		for _, d := range []api.Digest{{}, small(1), nAnd(0), digest(allOnes), api.Digest(draws.Bytes(32))} {
			for _, want := range []api.Signature{{R: r, S: d}, {R: d, S: r}} {
				s, e := sign.Decode(sign.Encode(want))
				is(t, "Decode of Encode", s, e, want)
			}
		}
	}
}
