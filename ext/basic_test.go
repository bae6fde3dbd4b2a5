package ext_test

import (
	"math"
	"testing"

	"chancery/api"
	"chancery/probe"
)

// P15.2, P15.3: values that are written out.
func TestKnownBasic(t *testing.T) {
	for digits, v := range map[string]api.Basic{
		"30 00":                   {Path: -1},
		"30 03 01 01 ff":          {CA: true, Path: -1},
		"30 06 01 01 ff 02 01 00": {CA: true},
		"30 06 01 01 ff 02 01 01": {CA: true, Path: 1},
		"30 06 01 01 ff 02 01 63": {CA: true, Path: 99},
		"30 06 01 01 ff 02 01 64": {CA: true, Path: 100},
	} {
		basics().takes(t, v, raw(digits))
	}
	for _, v := range []api.Basic{{}, {Path: 1}, {Path: 100}, {Path: -2}, {CA: true, Path: -2}, {CA: true, Path: 101}} {
		basics().refuses(t, v)
	}
}

// P15.2: values of each sort that may be, and that may not; each Path near the bounds.
func TestBasicSorts(t *testing.T) {
	k := basics()
	k.sortsOf(t)
	for path := -70000; path <= 70000; path++ {
		k.asWords(t, api.Basic{Path: path})
		k.asWords(t, api.Basic{CA: true, Path: path})
	}
}

// P15.3: each Path in bytes, also those that may not be.
func TestToBasicPaths(t *testing.T) {
	k := basics()
	for path := -70000; path <= 70000; path++ {
		integer := probe.Put(0x02, shortest(path))
		if got := k.AsShould(t, probe.Put(0x30, raw("01 01 ff"), integer)); got != (path >= 0 && path <= 100) {
			t.Errorf("the Path %d: %t", path, got)
		}
		if path > -200 && path < 200 {
			k.None(t, "a Path without CA", probe.Put(0x30, integer))
			k.None(t, "a Path without CA, false written", probe.Put(0x30, raw("01 01 00"), integer))
		}
	}
	for _, digits := range []string{"02 00", "02 02 00 05", "02 02 00 80", "02 02 ff ff", "02 03 00 00 05", "02 04 01 00 00 05", "02 05 01 00 00 00 05", "02 08 7f ff ff ff ff ff ff ff", "02 08 80 00 00 00 00 00 00 00", "02 09 00 80 00 00 00 00 00 00 05", "02 09 01 00 00 00 00 00 00 00 05", "02 09 ff 00 00 00 00 00 00 00 05", "02 81 01 05"} {
		k.None(t, "another Path", probe.Put(0x30, raw("01 01 ff"), raw(digits)))
	}
}

// shortest is the content of an integer, in as few bytes as can be.
func shortest(n int) []byte {
	b := []byte{byte(n >> 56), byte(n >> 48), byte(n >> 40), byte(n >> 32), byte(n >> 24), byte(n >> 16), byte(n >> 8), byte(n)}
	for len(b) > 1 && (b[0] == 0 && b[1] < 128 || b[0] == 255 && b[1] >= 128) {
		b = b[1:]
	}
	return b
}

// P15.3: bytes that are none, written out.
func TestNoBasic(t *testing.T) {
	for digits, what := range map[string]string{
		"":                                 "no byte",
		"30":                               "no length",
		"30 01":                            "a content cut short",
		"30 00 00":                         "a byte more",
		"31 00":                            "another tag",
		"10 00":                            "another tag",
		"30 80":                            "no length",
		"30 80 00 00":                      "no length",
		"30 81 00":                         "a length not the shortest",
		"30 81 03 01 01 ff":                "a length not the shortest",
		"30 82 00 03 01 01 ff":             "a length not the shortest",
		"30 04 01 81 01 ff":                "a length not the shortest",
		"30 07 01 01 ff 02 81 01 05":       "a length not the shortest",
		"30 03 01 01 00":                   "false written",
		"30 03 01 01 01":                   "another true",
		"30 03 01 01 fe":                   "another true",
		"30 03 01 01 7f":                   "another true",
		"30 02 01 00":                      "true without a byte",
		"30 04 01 02 ff ff":                "true of two bytes",
		"30 03 02 01 00":                   "a Path without CA",
		"30 03 02 01 05":                   "a Path without CA",
		"30 03 02 01 ff":                   "a Path without CA",
		"30 06 01 01 00 02 01 05":          "a Path without CA, false written",
		"30 06 01 01 ff 02 01 ff":          "a Path of -1",
		"30 06 01 01 ff 02 01 fe":          "a Path of -2",
		"30 06 01 01 ff 02 01 65":          "a Path too great",
		"30 06 01 01 ff 02 01 7f":          "a Path too great",
		"30 06 02 01 05 01 01 ff":          "another order",
		"30 06 01 01 ff 01 01 ff":          "true twice",
		"30 09 01 01 ff 01 01 ff 02 01 05": "true twice",
		"30 09 01 01 ff 02 01 05 02 01 05": "the Path twice",
		"30 08 01 01 ff 02 01 05 05 00":    "an element more",
		"30 08 05 00 01 01 ff 02 01 05":    "an element more",
		"30 05 01 01 ff 05 00":             "an element more",
		"30 02 05 00":                      "another element",
		"30 06 01 01 ff 02 01 05 00":       "a byte more",
		"30 07 01 01 ff 02 01 05 00":       "a byte more inside",
		"30 06 01 01 ff 02 01":             "a byte fewer",
		"30 05 01 01 ff 02 01":             "a byte fewer inside",
		"30 04 01 01 ff 02":                "a byte of the Path",
		"30 06 01 01 ff 0a 01 05":          "another tag of the Path",
		"30 06 01 01 ff 82 01 05":          "another tag of the Path",
		"30 06 81 01 ff 02 01 05":          "another tag of true",
		"01 01 ff":                         "true alone",
		"01 01 ff 02 01 05":                "what stands in it alone",
		"30 08 30 06 01 01 ff 02 01 05":    "an element too many around it",
	} {
		basics().None(t, what, raw(digits))
	}
}

// P15.3: all contents of few bytes, by the library.
func TestToBasicOfFew(t *testing.T) {
	k := basics()
	taken := 0
	for b := range probe.Short([]byte{0x00, 0x01, 0x02, 0x05, 0x64, 0x65, 0xff}, 6) {
		if k.AsShould(t, probe.Put(0x30, b)) {
			taken++
		}
	}
	if want := 2 + 5; taken != want { // neither, CA alone, and the Paths 0, 1, 2, 5, 100
		t.Errorf("%d are taken, want %d", taken, want)
	}
}

// P15.2: what beside an error stands is zero, also of numbers that would fit if they were cut.
func TestBasicGreat(t *testing.T) {
	k := basics()
	for i := 8; i < 63; i++ {
		for _, path := range []int{1<<i + 5, -1<<i + 5, 1 << i, 1<<i - 1, -1<<i - 1} {
			k.refuses(t, api.Basic{CA: true, Path: path})
			k.refuses(t, api.Basic{Path: path})
		}
	}
	k.refuses(t, api.Basic{CA: true, Path: math.MaxInt})
	k.refuses(t, api.Basic{CA: true, Path: math.MinInt})
}
