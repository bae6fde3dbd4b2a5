package ext_test

import (
	"testing"

	"chancery/probe"
)

// P15.2, P15.3: sets that are written out: each number alone, some, all nine.
func TestKnownUsage(t *testing.T) {
	for digits, set := range map[string]uint16{
		"03 02 07 80":    1 << 0,
		"03 02 06 40":    1 << 1,
		"03 02 05 20":    1 << 2,
		"03 02 04 10":    1 << 3,
		"03 02 03 08":    1 << 4,
		"03 02 02 04":    1 << 5,
		"03 02 01 02":    1 << 6,
		"03 02 00 01":    1 << 7,
		"03 03 07 00 80": 1 << 8,
		"03 02 02 84":    1<<0 | 1<<5,
		"03 02 01 06":    1<<5 | 1<<6,
		"03 02 00 ff":    255,
		"03 03 07 ff 80": 511,
		"03 03 07 80 80": 1<<0 | 1<<8,
	} {
		usages().takes(t, set, raw(digits))
	}
	for _, set := range []uint16{0, 1 << 9, 1 << 10, 1 << 11, 1 << 12, 1 << 13, 1 << 14, 1 << 15, 1<<9 | 1, 65535} {
		usages().refuses(t, set)
	}
}

// P15.2: all sets.
func TestUsageSets(t *testing.T) {
	k := usages()
	k.sortsOf(t)
	taken := 0
	for set := range 1 << 16 {
		if k.asWords(t, uint16(set)) {
			taken++
		}
	}
	if taken != 511 {
		t.Errorf("%d sets may be", taken)
	}
}

// P15.3: all contents of up to two bytes of bits, and more.
func TestToUsageContents(t *testing.T) {
	k := usages()
	taken := 0
	try := func(content ...byte) {
		if k.AsShould(t, probe.Put(0x03, content)) {
			taken++
		}
	}
	try()
	for x := range 256 {
		try(byte(x))
		for y := range 256 {
			try(byte(x), byte(y))
			if x > 9 {
				continue
			}
			for z := range 256 {
				try(byte(x), byte(y), byte(z))
			}
		}
	}
	if taken != 511 {
		t.Errorf("%d contents are taken", taken)
	}
	for unused := range 9 {
		for _, bits := range []string{"00 00 01", "00 00 80", "80 00 00", "80 80 80", "ff ff ff", "ff 80 00", "80 00 00 00 00 00 00 80"} {
			k.None(t, "more bytes", probe.Put(0x03, []byte{byte(unused)}, raw(bits)))
		}
	}
}

// P15.3: bytes that are none, written out.
func TestNoUsage(t *testing.T) {
	for digits, what := range map[string]string{
		"":                  "no byte",
		"03":                "no length",
		"03 00":             "no content",
		"03 01 00":          "none of the numbers",
		"03 01 07":          "unused bits without bytes",
		"03 02 07 00":       "a 0 bit at the end",
		"03 02 06 80":       "a 0 bit at the end",
		"03 02 00 80":       "0 bits at the end",
		"03 02 00 00":       "0 bits alone",
		"03 03 07 80 00":    "a 0 bit at the end",
		"03 03 00 80 00":    "0 bits at the end",
		"03 03 06 00 80":    "a 0 bit at the end, behind the ninth",
		"03 03 06 00 40":    "the tenth bit",
		"03 03 06 ff c0":    "the tenth bit",
		"03 03 00 00 01":    "the sixteenth bit",
		"03 03 05 80 20":    "a bit behind the ninth",
		"03 02 07 81":       "an unused bit that is not 0",
		"03 02 03 84":       "an unused bit that is not 0",
		"03 02 08 80":       "too many unused bits",
		"03 02 ff 80":       "too many unused bits",
		"03 02 07 80 00":    "a byte more",
		"03 02 07":          "a byte fewer",
		"03 81 02 07 80":    "a length not the shortest",
		"23 02 07 80":       "another tag",
		"23 04 03 02 07 80": "another tag",
		"04 02 07 80":       "another tag",
		"02 02 07 80":       "another tag",
		"30 04 03 02 07 80": "an element too many around it",
		"07 80":             "a content alone",
	} {
		usages().None(t, what, raw(digits))
	}
}

// P15.3: all short rows of bytes, by the library.
func TestToUsageOfFew(t *testing.T) {
	k := usages()
	taken := 0
	for b := range probe.Short([]byte{0x00, 0x01, 0x02, 0x03, 0x07, 0x80, 0xff}, 6) {
		if k.AsShould(t, b) {
			taken++
		}
	}
	if taken < 8 {
		t.Errorf("only %d are taken", taken)
	}
}
