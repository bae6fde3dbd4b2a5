package oid_test

import (
	"regexp"
	"slices"
	"strings"
	"testing"

	"chancery/api"
	"chancery/oid"
	"chancery/probe"
)

// noTexts: texts that are no object identifier's.
var noTexts = []string{
	"", ".", "..", "0", "1", "2", "2.", ".2", ".2.5", "2.5.", "2..5", "2.5..4", "2.5.4..", "..2.5", // no digits where there must be some
	"2.05", "02.5", "2.00", "00.1", "2.5.00", "2.5.04", "2.5.4.03", "1.2.0840", "2.000000000000000000005", // a 0 ahead
	"2.-5", "-2.5", "2.5.-1", "2.-0", "2.+5", "+2.5", "2.5.+4", // signs ahead
	" 2.5", "2.5 ", "2. 5", "2 .5", "2.5\n", "\t2.5", "2.5\x00", "\x002.5", // blanks and the like
	"2,5", "2/5", "2:5", "2.5,4", "2.5:4", "2.a", "a.b", "2.5a", "2.0x5", "0x2.5", "2.1e3", "2.1_0", "2.5/4", "id.2.5", "OID.2.5",
	"2.５", "２.5", "2.٣", "2。5", "2.5\xff", "\xff", "2.\xb5", "2.²", // digits of other alphabets, and no text at all
	"0.40", "1.40", "0.2147483647", "3.0", "3.1", "10.1", "20.5", "2147483647.0", // no object identifiers
	"2.2147483568", "2.2147483647", "2.2147483648", "2.5.2147483648", "1.2.2147483649", // above the greatest
	"2.5.4294967295", "2.5.4294967296", "2.5.4294967301", "2.4294967301", // too great for 32 bits; 5 modulo 2^32
	"2.5.9223372036854775807", "2.5.9223372036854775808", "2.5.18446744073709551616", "2.5.18446744073709551621", "18446744073709551618.5", // and for 64
	"2.5.99999999999999999999999999999999999999999999", "99999999999999999999.1",
}

// P3.3
func TestParseErrors(t *testing.T) {
	for _, s := range noTexts {
		if l, e := oid.Parse(s); l != nil || e != api.ErrOID {
			t.Errorf("Parse(%q): %d, error %d", s, l, e)
		}
	}
	for _, end := range []string{"", ".", "..1", ".01", ".x", ".2147483648"} {
		s := "1.2" + strings.Repeat(".1", api.MaxArcs-1) + end // one too many, and what is wrong behind
		if l, e := oid.Parse(s); l != nil || e != api.ErrOID {
			t.Errorf("Parse(%q): %d, error %d", s, l, e)
		}
	}
	for _, piece := range []string{".", "1", "0", "1.", "0.", "x", "1.2."} {
		if l, e := oid.Parse(strings.Repeat(piece, 1<<20)); l != nil || e != api.ErrOID {
			t.Errorf("Parse of many %q: %d, error %d", piece, l, e)
		}
	}
}

// P3.3: each byte, in each place of a text.
func TestParseBytes(t *testing.T) {
	for x := range 256 {
		for _, c := range []struct {
			ahead, behind string
			may           string
		}{
			{"", ".5", "012"}, {"2.", "", "0123456789"}, {"2.5", "", "0123456789"}, {"2.", "5", "123456789"}, {"2", "5", "."}, {"2.5.4", "3", ".0123456789"}, {"2.5.", "", "0123456789"},
		} {
			s := c.ahead + string([]byte{byte(x)}) + c.behind
			want := api.ErrOID
			if strings.IndexByte(c.may, byte(x)) >= 0 {
				want = api.OK
			}
			if l, e := oid.Parse(s); e != want || (l != nil) != (e == api.OK) {
				t.Errorf("Parse(%q): %d, error %d; want error %d", s, l, e, want)
			}
		}
	}
}

// P3.3, P3.6: of all short texts just those are taken that an object identifier has, and these are told again.
func TestTextOneForm(t *testing.T) {
	form := regexp.MustCompile(`^(([01]\.[123]?[0-9])|(2\.(0|[1-9][0-9]*)))(\.(0|[1-9][0-9]*))*$`)
	taken := 0
	for b := range probe.Short([]byte("012349.-"), 6) {
		s := string(b)
		l, e := oid.Parse(s)
		if want := form.MatchString(s); want != (e == api.OK) || !want && (l != nil || e != api.ErrOID) {
			t.Errorf("Parse(%q): %d, error %d", s, l, e)
		}
		if e != api.OK {
			continue
		}
		taken++
		if back, f := oid.Text(l); back != s || f != api.OK {
			t.Errorf("%q, read as %d, is told as %q, error %d", s, l, back, f)
		}
		content, f := oid.Encode(l)
		if back, g := oid.Decode(content); f != api.OK || g != api.OK || !slices.Equal(back, l) {
			t.Errorf("Decode(Encode(%d)): %d, errors %d and %d", l, back, f, g)
		}
	}
	if taken < 1000 {
		t.Errorf("only %d are taken", taken)
	}
}
