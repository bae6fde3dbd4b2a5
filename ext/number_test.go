package ext_test

import (
	"math"
	"slices"
	"testing"

	"chancery/api"
	"chancery/ext"
	"chancery/probe"
)

// P15.2, P15.3: numbers that are written out.
func TestKnownNumber(t *testing.T) {
	for digits, n := range map[string]int{
		"02 01 00":                      0,
		"02 01 01":                      1,
		"02 01 7f":                      127,
		"02 02 00 80":                   128,
		"02 02 00 ff":                   255,
		"02 02 01 00":                   256,
		"02 02 7f ff":                   32767,
		"02 03 00 80 00":                32768,
		"02 04 7f ff ff ff":             1<<31 - 1,
		"02 05 00 80 00 00 00":          1 << 31,
		"02 05 00 ff ff ff ff":          1<<32 - 1,
		"02 05 01 00 00 00 00":          1 << 32,
		"02 08 7f ff ff ff ff ff ff ff": math.MaxInt,
		"02 08 7f ff ff ff ff ff ff fe": math.MaxInt - 1,
		"02 08 01 23 45 67 89 ab cd ef": 0x123456789abcdef,
	} {
		numbers().takes(t, n, raw(digits))
	}
	for _, n := range []int{-1, -2, -127, -128, -129, -256, math.MinInt, math.MinInt + 1} {
		numbers().refuses(t, n)
	}
}

// P15.2: numbers of each sort.
func TestNumberSorts(t *testing.T) {
	k := numbers()
	k.sortsOf(t)
	for n := -70000; n <= 70000; n++ {
		if got := k.asWords(t, n); got != (n >= 0) {
			t.Errorf("%d: %t", n, got)
		}
	}
}

// P15.3: bytes that are none, written out.
func TestNoNumber(t *testing.T) {
	for digits, what := range map[string]string{
		"":                                    "no byte",
		"02":                                  "no length",
		"02 00":                               "no content",
		"02 01":                               "no content",
		"02 01 ff":                            "-1",
		"02 01 80":                            "-128",
		"02 02 ff 7f":                         "-129",
		"02 02 80 00":                         "-32768",
		"02 08 80 00 00 00 00 00 00 00":       "the least integer of eight bytes",
		"02 08 ff 00 00 00 00 00 00 01":       "a number below 0",
		"02 09 00 80 00 00 00 00 00 00 00":    "one more than the greatest",
		"02 09 00 ff ff ff ff ff ff ff ff":    "a number too great",
		"02 09 01 00 00 00 00 00 00 00 00":    "a number too great",
		"02 09 01 00 00 00 00 00 00 00 05":    "a number too great",
		"02 09 ff 00 00 00 00 00 00 00 05":    "a number below 0",
		"02 0a 01 00 00 00 00 00 00 00 00 05": "a number too great",
		"02 02 00 00":                         "a byte that says nothing",
		"02 02 00 05":                         "a byte that says nothing",
		"02 02 00 7f":                         "a byte that says nothing",
		"02 03 00 00 80":                      "a byte that says nothing",
		"02 02 ff ff":                         "a byte that says nothing",
		"02 02 ff 80":                         "a byte that says nothing",
		"02 81 01 05":                         "a length not the shortest",
		"02 82 00 01 05":                      "a length not the shortest",
		"02 01 05 00":                         "a byte more",
		"02 01 05 02 01 05":                   "twice",
		"02 02 05":                            "a byte fewer",
		"22 01 05":                            "another tag",
		"22 03 02 01 05":                      "another tag",
		"0a 01 05":                            "another tag",
		"82 01 05":                            "another tag",
		"01 01 ff":                            "another tag",
		"04 01 05":                            "another tag",
		"30 03 02 01 05":                      "an element around it",
		"05":                                  "a content alone",
	} {
		numbers().None(t, what, raw(digits))
	}
	numbers().None(t, "a very great number", probe.Put(0x02, []byte{1}, make([]byte, 1<<20)))
	numbers().None(t, "a number of 20 bytes", probe.Put(0x02, slices.Repeat([]byte{0x11}, 20)))
}

// P15.2, P15.3: reasons that are written out: each number from -1 to 11.
func TestKnownReason(t *testing.T) {
	k := reasons()
	for n := -1; n <= 11; n++ {
		b := []byte{0x0a, 1, byte(n)}
		if n == -1 || n == 7 || n == 11 {
			k.refuses(t, n)
			k.None(t, "no reason", b)
			continue
		}
		k.takes(t, n, b)
	}
	k.takes(t, 1, raw("0a 01 01"))
	k.takes(t, 10, raw("0a 01 0a"))
}

// P15.2: numbers of each sort.
func TestReasonSorts(t *testing.T) {
	k := reasons()
	k.sortsOf(t)
	for n := -70000; n <= 70000; n++ {
		if k.asWords(t, n) && (n < 0 || n > 10 || n == 7) {
			t.Errorf("%d may be", n)
		}
	}
}

// P15.3: bytes that are none, written out.
func TestNoReason(t *testing.T) {
	for digits, what := range map[string]string{
		"":                                 "no byte",
		"0a":                               "no length",
		"0a 00":                            "no content",
		"0a 01":                            "no content",
		"0a 01 07":                         "the number 7",
		"0a 01 0b":                         "the number 11",
		"0a 01 7f":                         "a greater number",
		"0a 01 80":                         "a number below 0",
		"0a 01 ff":                         "-1",
		"0a 02 00 01":                      "a byte that says nothing",
		"0a 02 00 80":                      "a greater number",
		"0a 02 01 01":                      "a greater number",
		"0a 05 01 00 00 00 01":             "a greater number",
		"0a 09 01 00 00 00 00 00 00 01":    "a greater number",
		"0a 09 01 00 00 00 00 00 00 00 01": "a number too great",
		"0a 02 ff ff":                      "a byte that says nothing",
		"0a 81 01 01":                      "a length not the shortest",
		"0a 01 01 00":                      "a byte more",
		"0a 02 01":                         "a byte fewer",
		"02 01 01":                         "another tag",
		"2a 01 01":                         "another tag",
		"2a 03 0a 01 01":                   "another tag",
		"8a 01 01":                         "another tag",
		"01 01 ff":                         "another tag",
		"30 03 0a 01 01":                   "an element around it",
		"01":                               "a content alone",
	} {
		reasons().None(t, what, raw(digits))
	}
}

// P15.3: contents of one and two bytes, all; and short rows of others.
func TestToIntegersOfFew(t *testing.T) {
	number, reason := numbers(), reasons()
	var taken [2]int
	try := func(content ...byte) {
		if number.AsShould(t, probe.Put(0x02, content)) {
			taken[0]++
		}
		if reason.AsShould(t, probe.Put(0x0a, content)) {
			taken[1]++
		}
	}
	for x := range 256 {
		try(byte(x))
		for y := range 256 {
			try(byte(x), byte(y))
		}
	}
	if taken != [2]int{32768, 10} {
		t.Errorf("%d are taken", taken)
	}
	for b := range probe.Short([]byte{0x00, 0x01, 0x7f, 0x80, 0xff}, 5) {
		try(b...)
		try(append(raw("00 80 00 00"), b...)...)
		try(append(raw("7f ff ff ff ff"), b...)...)
		number.AsShould(t, b)
		reason.AsShould(t, b)
	}
}

// P15.2, P15.3: keys' names that are written out.
func TestKnownKeys(t *testing.T) {
	k := api.KeyId{1, 19: 2}
	middle := "01 00 00 00 00 00 00 00 00 00 00 00 00 00 00 00 00 00 00 02"
	subjects().takes(t, k, raw("04 14"+middle))
	issuers().takes(t, k, raw("30 16 80 14"+middle))
	zeros := "00 00 00 00 00 00 00 00 00 00 00 00 00 00 00 00 00 00 00 00"
	subjects().takes(t, api.KeyId{}, raw("04 14"+zeros))
	issuers().takes(t, api.KeyId{}, raw("30 16 80 14"+zeros))
	subjects().sortsOf(t)
	issuers().sortsOf(t)
}

// P15.3: keys' names of other lengths.
func TestKeyLengths(t *testing.T) {
	for n := range 300 {
		id := slices.Repeat([]byte{0x5a}, n)
		if got := subjects().AsShould(t, probe.Put(0x04, id)); got != (n == 20) {
			t.Errorf("Subject of %d bytes: %t", n, got)
		}
		if got := issuers().AsShould(t, probe.Put(0x30, probe.Put(0x80, id))); got != (n == 20) {
			t.Errorf("Issuer of %d bytes: %t", n, got)
		}
	}
	for _, id := range [][]byte{make([]byte, 19), make([]byte, 21), make([]byte, 0), make([]byte, 256+20), make([]byte, 1<<16+20)} {
		subjects().None(t, "another length", probe.Put(0x04, id))
		issuers().None(t, "another length", probe.Put(0x30, probe.Put(0x80, id)))
	}
}

// P15.3: bytes that are none, written out.
func TestNoKeys(t *testing.T) {
	id := "000102030405060708090a0b0c0d0e0f10111213"
	subjects().takes(t, api.KeyId(raw(id)), raw("0414"+id))
	for digits, what := range map[string]string{
		"":                          "no byte",
		"04":                        "no length",
		"04 14":                     "no content",
		"04 14" + id + "00":         "a byte more",
		"04 15" + id:                "a byte fewer",
		"04 81 14" + id:             "a length not the shortest",
		"24 14" + id:                "another tag",
		"80 14" + id:                "another tag",
		"03 14" + id:                "another tag",
		"03 15 00" + id:             "another tag",
		"24 16 04 14" + id:          "another tag",
		"30 16 04 14" + id:          "an element around it",
		"30 16 80 14" + id:          "Issuer",
		"04 16 04 14" + id:          "an element around it",
		"04 14" + id + "04 14" + id: "twice",
		id:                          "a content alone",
	} {
		subjects().None(t, what, raw(digits))
	}
	issuers().takes(t, api.KeyId(raw(id)), raw("30168014"+id))
	for digits, what := range map[string]string{
		"":                                    "no byte",
		"30":                                  "no length",
		"30 00":                               "nothing in it",
		"30 02 80 00":                         "no bytes",
		"30 16 80 14" + id + "00":             "a byte more",
		"30 17 80 14" + id + "00":             "a byte more inside",
		"30 18 80 14" + id + "05 00":          "an element more",
		"30 18 05 00 80 14" + id:              "an element more ahead",
		"30 1b 80 14" + id + "82 03 01 02 03": "a serial number behind it",
		"30 2c 80 14" + id + "80 14" + id:     "twice",
		"30 16 80 15" + id:                    "a byte fewer",
		"30 17 80 81 14" + id:                 "a length not the shortest",
		"30 81 16 80 14" + id:                 "a length not the shortest",
		"31 16 80 14" + id:                    "another tag",
		"30 16 a0 14" + id:                    "another tag inside",
		"30 16 81 14" + id:                    "another tag inside",
		"30 16 04 14" + id:                    "another tag inside",
		"30 18 a0 16 04 14" + id:              "another tag inside",
		"80 14" + id:                          "what is in it alone",
		"04 14" + id:                          "Subject",
		"30 18 30 16 80 14" + id:              "an element around it",
	} {
		issuers().None(t, what, raw(digits))
	}
}

// P15.2: Subject and Issuer of any bytes, each at its place.
func TestKeysOfAny(t *testing.T) {
	var draws probe.Draws
	subject, issuer := subjects(), issuers()
	for range 500 {
		k := api.KeyId(draws.Bytes(20))
		subject.takes(t, k, slices.Concat(raw("04 14"), k[:]))
		issuer.takes(t, k, slices.Concat(raw("30 16 80 14"), k[:]))
		if _, e := ext.ToSubject(ext.Issuer(k)); e != api.ErrExt {
			t.Errorf("Issuer's bytes are Subject's, error %d", e)
		}
		if _, e := ext.ToIssuer(ext.Subject(k)); e != api.ErrExt {
			t.Errorf("Subject's bytes are Issuer's, error %d", e)
		}
	}
}
