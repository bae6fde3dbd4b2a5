package cert_test

import (
	"bytes"
	"slices"
	"strings"
	"testing"

	"chancery/api"
	"chancery/cert"
	"chancery/probe"
)

// joins fails unless a body and a signature have these bytes, which are split into them.
func joins(t *testing.T, c couple, b []byte) {
	t.Helper()
	if got, e := cert.Join(c.body, c.signature); e != api.OK || !bytes.Equal(got, b) {
		t.Fatalf("Join(%.600x, %s): %.600x, error %d; want %.600x", c.body, show(c.signature), got, e, b)
	}
	if body, s, e := cert.Split(b); e != api.OK || !bytes.Equal(body, c.body) || s != c.signature {
		t.Fatalf("Split(%.600x): %.600x, %s, error %d; want %.600x, %s", b, body, show(s), e, c.body, show(c.signature))
	}
}

// notJoined fails unless bytes can't be joined, and nothing stands beside the error.
func notJoined(t *testing.T, body []byte, s api.Signature, want api.Errno) {
	t.Helper()
	if got, e := cert.Join(body, s); e != want || len(got) > 0 {
		t.Fatalf("Join(%.600x, of %d bytes, %s): %.600x, error %d; want error %d", body, len(body), show(s), got, e, want)
	}
}

// P16.3: what is joined, written out.
func TestKnownJoins(t *testing.T) {
	s := api.Signature{R: probe.Small(1), S: probe.Small(128)}
	joins(t, couple{raw("05 00"), s}, raw("30 1a 05 00"+ecdsaWithSHA256+"03 0a 00 30 07 02 01 01 02 02 00 80"))
	joins(t, couple{raw("30 03 02 01 05"), s}, raw("30 1d 30 03 02 01 05"+ecdsaWithSHA256+"03 0a 00 30 07 02 01 01 02 02 00 80"))
	joins(t, couple{raw("04 01 ff"), api.Signature{}}, raw("30 1a 04 01 ff"+ecdsaWithSHA256+"03 09 00 30 06 02 01 00 02 01 00"))
	joins(t, couple{raw("05 00"), api.Signature{R: allOnes, S: probe.Small(127)}}, raw("30 39 05 00"+ecdsaWithSHA256+"03 29 00 30 26 02 21 00"+strings.Repeat("ff", 32)+"02 01 7f"))
}

// P16.3: bodies and signatures of each sort; contents whose lengths take one, two and three bytes to say, and four.
func TestJoins(t *testing.T) {
	heads := map[byte]int{}
	for _, c := range couples() {
		b := joinedBytes(c)
		joins(t, c, b)
		heads[min(b[1], 0x80)|b[1]&3]++
	}
	if len(heads) < 4 {
		t.Errorf("lengths that begin with %v", heads)
	}
}

// P16.3: bodies of each length near those at which something changes.
func TestJoinLengths(t *testing.T) {
	for _, span := range [][2]int{{0, 300}, {65450, 65560}} {
		for n := span[0]; n <= span[1]; n++ {
			c := couple{probe.Put(0x30, bytes.Repeat([]byte{7}, n)), api.Signature{R: probe.Small(1), S: probe.Small(1)}}
			joins(t, c, joinedBytes(c))
		}
	}
}

// P16.3: bodies that are no element, or two.
func TestJoinNoElement(t *testing.T) {
	r := joinedReader()
	for _, b := range noElements() {
		for _, s := range signatures() {
			notJoined(t, b, s, api.ErrCert)
			r.None(t, "of no element", joinedBytes(couple{b, s}))
		}
	}
	for _, b := range [][]byte{bodyBytes(plain()), probe.Put(4, make([]byte, 300))} {
		for end := range b {
			notJoined(t, b[:end], api.Signature{}, api.ErrCert)
		}
		for x := range 256 {
			notJoined(t, append(bytes.Clone(b), byte(x)), api.Signature{}, api.ErrCert)
		}
		notJoined(t, slices.Concat(b, b), api.Signature{}, api.ErrCert)
	}
}

// P16.3: a body of each tag, and with what is no tag.
func TestJoinTags(t *testing.T) {
	r := joinedReader()
	for tag := range 256 {
		c := couple{[]byte{byte(tag), 1, 0xff}, api.Signature{R: base.X, S: base.Y}}
		if tag&31 == 31 {
			notJoined(t, c.body, c.signature, api.ErrCert)
			r.None(t, "no tag", joinedBytes(c))
			continue
		}
		joins(t, c, joinedBytes(c))
	}
}

// P16.3: as many bytes as may be, and more.
func TestJoinMost(t *testing.T) {
	for _, s := range []api.Signature{{}, {R: allOnes, S: allOnes}} {
		beside := len(joinedBytes(couple{raw("05 00"), s})) - 4 // what stands beside the body, of which 05 00 has two bytes, as has the head
		most := api.MaxContent - beside - 5                     // the body's head has five bytes
		for _, n := range []int{most - 5, most - 4, most - 1, most} {
			c := couple{probe.Put(4, bytes.Repeat([]byte{7}, n)), s}
			b := joinedBytes(c)
			joins(t, c, b)
			if content := len(b) - 5; content != api.MaxContent-(most-n) {
				t.Fatalf("a content of %d bytes", content)
			}
		}
		for _, n := range []int{most + 1, most + 2, most + 5, most + 6, api.MaxContent - 1, api.MaxContent} {
			notJoined(t, probe.Put(4, make([]byte, n)), s, api.ErrLong)
		}
		notJoined(t, slices.Concat([]byte{4, 0x84, 1, 0, 0, 0}, make([]byte, api.MaxContent+1)), s, api.ErrCert)
		notJoined(t, slices.Concat(probe.Put(4, make([]byte, api.MaxContent)), []byte{5}), s, api.ErrCert)
		notJoined(t, probe.Put(4, make([]byte, api.MaxContent))[:api.MaxContent+4], s, api.ErrCert)
	}
}

// P16.3: a part that is missing, that stands there twice, or elsewhere.
func TestSplitParts(t *testing.T) {
	r := joinedReader()
	for _, body := range []string{"05 00", ecdsaWithSHA256, "30 00"} {
		parts := []string{body, ecdsaWithSHA256, "03 0a 00 30 07 02 01 01 02 02 00 80"}
		joins(t, couple{raw(body), api.Signature{R: probe.Small(1), S: probe.Small(128)}}, of(parts))
		for i, part := range parts {
			r.None(t, "a part missing", of(slices.Delete(slices.Clone(parts), i, i+1)))
			r.None(t, "a part twice", of(slices.Insert(slices.Clone(parts), i, part)))
			r.None(t, "a part once more at the end", of(append(slices.Clone(parts), part)))
			r.None(t, "something ahead of a part", of(slices.Insert(slices.Clone(parts), i, "05 00")))
			r.None(t, "parts missing at the end", of(parts[:i]))
			for j := range i {
				l := slices.Clone(parts)
				l[i], l[j] = l[j], l[i]
				if got := r.AsShould(t, of(l)); got != (l[1] == ecdsaWithSHA256 && l[2] == parts[2]) {
					t.Errorf("the parts %d and %d changed over: %t", i, j, got)
				}
			}
		}
		r.None(t, "something behind", of(append(slices.Clone(parts), "05 00")))
		b := of(parts)
		r.None(t, "within another one", probe.Put(0x30, b))
		r.None(t, "another tag", slices.Concat([]byte{0x31}, b[1:]))
		r.None(t, "the body alone", raw(body))
	}
}

// P16.3: another algorithm.
func TestSplitAlgorithm(t *testing.T) {
	joins, certs := joinedReader(), certReader(t)
	for _, other := range otherAlgorithms {
		joins.None(t, "another algorithm", of([]string{"05 00", other, "03 0a 00 30 07 02 01 01 02 02 00 80"}))
		certs.None(t, "another algorithm", of([]string{knownBodies[0].bytes, other, "03 0a 00 30 07 02 01 01 02 02 00 80"}))
	}
}

// P16.3: bits that are no signature.
func TestSplitBits(t *testing.T) {
	r := joinedReader()
	long := strings.Repeat("ff", 32)
	for what, bits := range map[string]string{
		"none":                         "",
		"no content":                   "03 00",
		"no bits":                      "03 01 00",
		"an unused bit":                "03 0a 01 30 07 02 01 01 02 02 00 80",
		"seven unused bits":            "03 0a 07 30 07 02 01 01 02 02 00 80",
		"eight unused bits":            "03 0a 08 30 07 02 01 01 02 02 00 80",
		"without the unused bits":      "03 09 30 07 02 01 01 02 02 00 80",
		"octets":                       "04 0a 00 30 07 02 01 01 02 02 00 80",
		"the signature alone":          "30 07 02 01 01 02 02 00 80",
		"a byte behind":                "03 0b 00 30 07 02 01 01 02 02 00 80 00",
		"a byte fewer":                 "03 09 00 30 07 02 01 01 02 02 00",
		"another tag":                  "03 0a 00 31 07 02 01 01 02 02 00 80",
		"no number":                    "03 03 00 30 00",
		"one number":                   "03 06 00 30 03 02 01 01",
		"three numbers":                "03 0d 00 30 0a 02 01 01 02 02 00 80 02 01 01",
		"another tag of R":             "03 0a 00 30 07 0a 01 01 02 02 00 80",
		"another tag of S":             "03 0a 00 30 07 02 01 01 04 02 00 80",
		"R below 0":                    "03 0a 00 30 07 02 01 80 02 02 00 80",
		"S below 0":                    "03 09 00 30 06 02 01 01 02 01 80",
		"R without a byte":             "03 09 00 30 06 02 00 02 02 00 80",
		"S with a byte 0 ahead":        "03 0a 00 30 07 02 01 01 02 02 00 7f",
		"R with two bytes 0 ahead":     "03 0c 00 30 09 02 03 00 00 80 02 02 00 80",
		"R of 33 bytes":                "03 2b 00 30 28 02 21 01" + long + "02 01 01 02",
		"S of 33 bytes":                "03 2b 00 30 28 02 01 01 02 21 01" + long + "02",
		"a number of 33 bytes":         "03 2a 00 30 27 02 21 01" + long + "02 01 01",
		"another number of 33 bytes":   "03 2a 00 30 27 02 01 01 02 21 01" + long,
		"a length not the shortest":    "03 0b 00 30 81 07 02 01 01 02 02 00 80",
		"another one":                  "03 81 0a 00 30 07 02 01 01 02 02 00 80",
		"yet another one":              "03 0b 00 30 08 02 81 01 01 02 02 00 80",
		"bits in a constructed string": "23 0c 03 0a 00 30 07 02 01 01 02 02 00 80",
	} {
		r.None(t, what, of([]string{"05 00", ecdsaWithSHA256, bits}))
	}
}

// P16.3: signatures whose last bits are 0, of which some are said to be unused.
func TestSplitUnusedBits(t *testing.T) {
	r := joinedReader()
	for _, last := range []byte{0x80, 0x40, 0x10, 0x02} {
		c := couple{raw("05 00"), api.Signature{R: probe.Small(1), S: probe.Small(int(last))}}
		b := joinedBytes(c)
		joins(t, c, b)
		at := bytes.LastIndex(b, []byte{0, 0x30})
		for unused := byte(1); unused <= 8; unused++ {
			b[at] = unused
			r.None(t, "unused bits", b)
		}
	}
}
