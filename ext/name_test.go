package ext_test

import (
	"slices"
	"strings"
	"testing"

	"chancery/api"
	"chancery/probe"
)

// P15.2, P15.3: names that are written out, of each Kind.
func TestKnownNames(t *testing.T) {
	for digits, l := range map[string][]api.General{
		"30 05 82 03 61 2e 62":    {{Kind: 2, Text: "a.b"}},
		"30 05 81 03 61 40 62":    {{Kind: 1, Text: "a@b"}},
		"30 06 87 04 0a 00 00 ff": {{Kind: 7, Text: "\x0a\x00\x00\xff"}},
		"30 12 87 10 00 01 02 03 04 05 06 07 08 09 0a 0b 0c 0d 0e 0f": {{Kind: 7, Text: "\x00\x01\x02\x03\x04\x05\x06\x07\x08\x09\x0a\x0b\x0c\x0d\x0e\x0f"}},
		"30 04 a4 02 30 00": {{Kind: 4, Text: "\x30\x00"}},
		"30 11 a4 0f 30 0d 31 0b 30 09 06 03 55 04 06 13 02 44 45":    {{Kind: 4, Text: "\x30\x0d\x31\x0b\x30\x09\x06\x03\x55\x04\x06\x13\x02DE"}},
		"30 07 82 05 2a 2e 61 2e 62":                                  {{Kind: 2, Text: "*.a.b"}},
		"30 06 82 01 61 82 01 61":                                     {{Kind: 2, Text: "a"}, {Kind: 2, Text: "a"}},
		"30 06 82 01 62 82 01 61":                                     {{Kind: 2, Text: "b"}, {Kind: 2, Text: "a"}},
		"30 12 87 04 61 62 63 64 a4 02 30 00 81 03 61 40 62 82 01 61": {{Kind: 7, Text: "abcd"}, {Kind: 4, Text: "\x30\x00"}, {Kind: 1, Text: "a@b"}, {Kind: 2, Text: "a"}},
		"30 7f 82 7d " + digitsOf(probe.LongHost(125)):                {{Kind: 2, Text: probe.LongHost(125)}},
		"30 81 80 82 7e " + digitsOf(probe.LongHost(126)):             {{Kind: 2, Text: probe.LongHost(126)}},
		"30 81 83 82 81 80 " + digitsOf(probe.LongHost(128)):          {{Kind: 2, Text: probe.LongHost(128)}},
		"30 81 ff 82 81 fc" + digitsOf(probe.LongHost(252)):           {{Kind: 2, Text: probe.LongHost(252)}},
		"30 82 01 00 82 81 fd" + digitsOf(probe.LongHost(253)):        {{Kind: 2, Text: probe.LongHost(253)}},
	} {
		names().takes(t, l, raw(digits))
	}
}

// digitsOf are a text's bytes by digits.
func digitsOf(s string) string {
	const digits = "0123456789abcdef"
	var b strings.Builder
	for at := range len(s) {
		b.WriteByte(digits[s[at]>>4])
		b.WriteByte(digits[s[at]&15])
	}
	return b.String()
}

// P15.2: names of each sort that may be, and that may not.
func TestNamesSorts(t *testing.T) { names().sortsOf(t) }

// P15.2, P15.3: as many as may be, one more, none; one that may not be at each place.
func TestNamesCounts(t *testing.T) {
	k := names()
	for _, g := range []api.General{{Kind: 2, Text: "a"}, {Kind: 7, Text: "abcd"}, {Kind: 4, Text: "\x30\x00"}, {Kind: 1, Text: "a@b"}} {
		for n := range 60 {
			l := slices.Repeat([]api.General{g}, n)
			may := n >= 1 && n <= 16
			if got := k.asWords(t, l); got != may {
				t.Errorf("%d names of the kind %d: %t", n, g.Kind, got)
			}
			b, err := k.bytes(l)
			if err != nil {
				t.Fatal(err)
			}
			if got := k.AsShould(t, b); got != may {
				t.Errorf("the bytes of %d names of the kind %d: %t", n, g.Kind, got)
			}
			if !may {
				continue
			}
			for i := range n {
				for _, wrong := range []api.General{{Kind: 2, Text: "-"}, {Kind: 1, Text: "a"}, {Kind: 7, Text: "a"}, {Kind: 4, Text: "a"}, {Kind: 6, Text: "a"}} {
					l := slices.Clone(l)
					l[i] = wrong
					k.refuses(t, l)
					b, _ := k.bytes(l)
					k.None(t, "one that may not be", b)
				}
			}
		}
	}
}

// P15.3: names that may not be, in the bytes that they would have.
func TestToNamesThatMayNotBe(t *testing.T) {
	k := names()
	for _, g := range wrongNames() {
		if g.Kind < 0 || g.Kind > 30 {
			continue
		}
		one := probe.Put(byte(0x80+g.Kind), []byte(g.Text))
		if g.Kind == 4 {
			one[0] = 0xa4
		}
		k.None(t, "one that may not be", probe.Put(0x30, one))
		k.None(t, "one that may not be, ahead", probe.Put(0x30, one, raw("82 01 61")))
		k.None(t, "one that may not be, behind", probe.Put(0x30, raw("82 01 61"), one))
	}
}

// P15.3: each tag of a name, with a Text of each kind.
func TestToNamesTags(t *testing.T) {
	k := names()
	taken := map[int]int{}
	for tag := range 256 {
		for _, text := range []string{"a", "a.b", "a@b", "*.a.b", "abcd", "\x30\x00", nameBytes("C=DE"), strings.Repeat("\x00", 16), "", "\x82\x01a", strings.Repeat("\x00", 8)} {
			if k.AsShould(t, probe.Put(0x30, probe.Put(byte(tag), []byte(text)))) {
				taken[tag]++
			}
			k.AsShould(t, probe.Put(0x30, raw("82 01 61"), probe.Put(byte(tag), []byte(text))))
			k.AsShould(t, probe.Put(0x30, probe.Put(byte(tag), []byte(text)), raw("82 01 61")))
		}
	}
	if len(taken) != 4 || taken[0x81] != 1 || taken[0x82] != 4 || taken[0x87] != 2 || taken[0xa4] != 2 {
		t.Errorf("tags, and how many are taken of each: %v", taken)
	}
}

// P15.3: bytes that are none, written out.
func TestNoNames(t *testing.T) {
	for digits, what := range map[string]string{
		"":                                    "no byte",
		"30":                                  "no length",
		"30 00":                               "none",
		"30 02 82 00":                         "an empty one",
		"30 03 82 01 61 00":                   "a byte more",
		"30 04 82 01 61 00":                   "a byte more inside",
		"30 05 82 01 61 05 00":                "an element more",
		"30 05 05 00 82 01 61":                "an element more ahead",
		"30 03 82 01":                         "a byte fewer",
		"30 02 82 01":                         "a byte fewer inside",
		"31 03 82 01 61":                      "another tag",
		"30 03 83 01 61":                      "another tag of one",
		"30 03 86 01 61":                      "another tag of one",
		"30 03 88 01 61":                      "another tag of one",
		"30 03 80 01 61":                      "another tag of one",
		"30 03 a2 01 61":                      "another tag of one",
		"30 05 a2 03 82 01 61":                "another tag of one",
		"30 03 c2 01 61":                      "another tag of one",
		"30 03 02 01 61":                      "another tag of one",
		"30 03 16 01 61":                      "another tag of one",
		"30 05 a1 03 61 40 62":                "another tag of a mail address",
		"30 06 a7 04 0a 00 00 ff":             "another tag of an address",
		"30 04 84 02 30 00":                   "another tag of a name",
		"30 02 30 00":                         "a name without its tag",
		"30 05 a4 03 82 01 61":                "no name",
		"30 02 a4 00":                         "no name",
		"30 05 a4 03 30 01 00":                "no name",
		"30 06 a4 04 30 00 30 00":             "two names in one",
		"30 05 a4 03 30 81 00":                "a length not the shortest in a name",
		"30 05 87 03 0a 00 00":                "an address too short",
		"30 0a 87 08 0a 00 00 00 ff 00 00 00": "an address with a mask",
		"30 03 82 01 2d":                      "no host's name",
		"30 04 82 02 2e 61":                   "no host's name",
		"30 05 82 03 2a 2e 61":                "no wild name",
		"30 03 81 01 61":                      "no mail address",
		"30 81 03 82 01 61":                   "a length not the shortest",
		"30 04 82 81 01 61":                   "a length not the shortest",
		"30 80 82 01 61 00 00":                "no length",
		"82 01 61":                            "one alone",
		"30 05 30 03 82 01 61":                "an element too many around it",
		"30 06 82 01 61 82 01 2d":             "the second one may not be",
		"30 06 82 01 61 83 01 61":             "the second one of another tag",
	} {
		names().None(t, what, raw(digits))
	}
}

// P15.3: all short rows of bytes in a name's place.
func TestToNamesOfFew(t *testing.T) {
	k := names()
	taken := 0
	for b := range probe.Short([]byte{0x00, 0x01, 0x02, 0x30, 0x61, 0x82, 0xa4}, 5) {
		if k.AsShould(t, probe.Put(0x30, b)) {
			taken++
		}
		k.AsShould(t, b)
	}
	if taken < 5 {
		t.Errorf("only %d are taken", taken)
	}
}
