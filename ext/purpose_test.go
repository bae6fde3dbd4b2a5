package ext_test

import (
	"slices"
	"testing"

	"chancery/probe"
)

// purposeBytes is the bytes of one purpose, below 128.
func purposeBytes(n int) []byte {
	return slices.Concat(raw("06 08 2b 06 01 05 05 07 03"), []byte{byte(n)})
}

// P15.2, P15.3: lists that are written out.
func TestKnownPurposes(t *testing.T) {
	for digits, l := range map[string][]int{
		"30 0a 06 08 2b 06 01 05 05 07 03 01":                               {1},
		"30 0a 06 08 2b 06 01 05 05 07 03 7f":                               {127},
		"30 14 06 08 2b 06 01 05 05 07 03 01 06 08 2b 06 01 05 05 07 03 02": {1, 2},
		"30 14 06 08 2b 06 01 05 05 07 03 09 06 08 2b 06 01 05 05 07 03 02": {9, 2},
	} {
		purposes().takes(t, l, raw(digits))
	}
	for _, l := range [][]int{nil, {}, {0}, {128}, {-1}, {1, 1}, {1, 2, 1}, {1, 0}, {128, 1}} {
		purposes().refuses(t, l)
	}
}

// P15.2: lists of each sort that may be, and that may not.
func TestPurposesSorts(t *testing.T) { purposes().sortsOf(t) }

// P15.2, P15.3: each number, alone and with another one behind and ahead.
func TestPurposesNumbers(t *testing.T) {
	k := purposes()
	for n := -300; n <= 300; n++ {
		may := n >= 1 && n <= 127
		other := 5
		if n == other {
			other = 6
		}
		for _, l := range [][]int{{n}, {n, other}, {other, n}} {
			if got := k.asWords(t, l); got != may {
				t.Errorf("%d: %t", l, got)
			}
			if n < 0 {
				continue
			}
			b, err := k.bytes(l)
			if err != nil {
				t.Fatal(err)
			}
			if got := k.AsShould(t, b); got != may {
				t.Errorf("the bytes of %d: %t", l, got)
			}
		}
	}
	for _, n := range []int{1 << 14, 1<<16 + 1, 1<<31 - 1} {
		b, _ := k.bytes([]int{n})
		k.None(t, "a great number", b)
	}
}

// P15.2, P15.3: as many as may be, one more, none; one twice at each two places.
func TestPurposesCounts(t *testing.T) {
	k := purposes()
	for n := range 60 {
		var l []int
		for i := range n {
			l = append(l, 127-i)
		}
		if got := k.asWords(t, l); got != (n >= 1 && n <= 16) {
			t.Errorf("%d purposes: %t", n, got)
		}
		b, err := k.bytes(l)
		if err != nil {
			t.Fatal(err)
		}
		if got := k.AsShould(t, b); got != (n >= 1 && n <= 16) {
			t.Errorf("the bytes of %d purposes: %t", n, got)
		}
		if n > 16 {
			continue
		}
		for i := range n {
			for j := range i {
				twice := slices.Clone(l)
				twice[i] = l[j]
				k.refuses(t, twice)
				b, _ := k.bytes(twice)
				k.None(t, "one twice", b)
			}
		}
	}
}

// P15.3: bytes that are none, written out.
func TestNoPurposes(t *testing.T) {
	one := "06 08 2b 06 01 05 05 07 03 01"
	for digits, what := range map[string]string{
		"":                                              "no byte",
		"30":                                            "no length",
		"30 00":                                         "none",
		"30 0a" + one + "00":                            "a byte more",
		"30 0b" + one + "00":                            "a byte more inside",
		"30 0c" + one + "05 00":                         "an element more",
		"30 0c 05 00" + one:                             "an element more ahead",
		"30 09 06 08 2b 06 01 05 05 07 03":              "a byte fewer",
		"31 0a" + one:                                   "another tag",
		"30 0a 0d 08 2b 06 01 05 05 07 03 01":           "another tag of one",
		"30 0a 26 08 2b 06 01 05 05 07 03 01":           "another tag of one",
		"30 0a 86 08 2b 06 01 05 05 07 03 01":           "another tag of one",
		"30 0a 06 08 2a 06 01 05 05 07 03 01":           "another beginning",
		"30 0a 06 08 2b 06 01 05 05 07 02 01":           "another beginning",
		"30 0a 06 08 2b 06 01 05 05 08 03 01":           "another beginning",
		"30 0a 06 08 2b 07 01 05 05 07 03 01":           "another beginning",
		"30 09 06 07 2b 06 01 05 05 07 03":              "a shorter one",
		"30 09 06 07 2b 06 01 05 05 07 01":              "a shorter one",
		"30 03 06 01 01":                                "a shorter one",
		"30 02 06 00":                                   "an empty one",
		"30 0b 06 09 2b 06 01 05 05 07 03 01 01":        "a longer one",
		"30 0b 06 09 2b 06 01 05 05 07 03 81 00":        "the number 128",
		"30 0b 06 09 2b 06 01 05 05 07 03 81 01":        "the number 129",
		"30 0b 06 09 2b 06 01 05 05 07 03 80 01":        "a number that begins with 80",
		"30 0a 06 08 2b 06 01 05 05 07 03 00":           "the number 0",
		"30 0a 06 08 2b 06 01 05 05 07 03 81":           "a number cut short",
		"30 06 06 04 55 1d 25 00":                       "another object identifier",
		"30 05 06 03 55 1d 01":                          "another object identifier",
		"30 14" + one + one:                             "one twice",
		"30 81 0a" + one:                                "a length not the shortest",
		"30 82 00 0a" + one:                             "a length not the shortest",
		"30 80" + one + "00 00":                         "no length",
		"30 0b 06 81 08 2b 06 01 05 05 07 03 01":        "a length not the shortest",
		one:                                             "one alone",
		"30 0c 30 0a" + one:                             "an element too many around it",
		"30 14" + one + "06 08 2b 06 01 05 05 07 03 00": "the second one not",
	} {
		purposes().None(t, what, raw(digits))
	}
}

// P15.3: object identifiers that are one byte away from a purpose's, and all short contents in their place.
func TestToPurposesNear(t *testing.T) {
	k := purposes()
	for at := range 10 {
		for x := range 256 {
			b := purposeBytes(5)
			b[at] = byte(x)
			k.AsShould(t, probe.Put(0x30, b))
			k.AsShould(t, probe.Put(0x30, purposeBytes(6), b))
			k.AsShould(t, probe.Put(0x30, b, purposeBytes(6)))
		}
	}
	for b := range probe.Short([]byte{0x00, 0x01, 0x03, 0x06, 0x7f, 0x80, 0x81, 0xff}, 4) {
		k.AsShould(t, probe.Put(0x30, probe.Put(0x06, b)))
		k.AsShould(t, probe.Put(0x30, probe.Put(0x06, raw("2b 06 01 05 05 07 03"), b)))
		k.AsShould(t, probe.Put(0x30, purposeBytes(5), probe.Put(0x06, raw("2b 06 01 05 05 07 03"), b)))
		k.AsShould(t, probe.Put(0x30, b))
	}
}
