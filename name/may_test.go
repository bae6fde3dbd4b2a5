package name_test

import (
	"bytes"
	"slices"
	"strings"
	"testing"

	"chancery/api"
	"chancery/name"
	"chancery/probe"
)

// P12.1, P12.2, P12.4: names, bytes and texts that are written out.
func TestKnown(t *testing.T) {
	for _, k := range known {
		takes(t, k.n, probe.Raw(k.bytes), k.text)
	}
}

// P12.1: names of each sort that may be, with the library's bytes.
func TestMay(t *testing.T) {
	for _, n := range names() {
		takes(t, n, libraryBytes(t, n), textOf(n))
	}
}

// P12.1: of each sort that may not be, with attributes beside it that may, at each place.
func TestMayNot(t *testing.T) {
	good := api.Attr{Type: 3, Value: "a"}
	for _, a := range wrongs() {
		for _, n := range []api.Name{{a}, {a, a}, {a, good}, {good, a}, {good, a, good}} {
			refuses(t, n)
		}
	}
	for at := range api.MaxAttrs {
		n := slices.Repeat(api.Name{good}, api.MaxAttrs)
		takes(t, n, libraryBytes(t, n), textOf(n))
		n[at].Value = ""
		refuses(t, n)
		n[at] = api.Attr{Type: 6, Value: "de"}
		refuses(t, n)
	}
}

// P12.1: the numbers near the types.
func TestMayTypes(t *testing.T) {
	for k := -300; k <= 300; k++ {
		_, want := labels[k]
		// This Value is one that each of the types takes.
		if got := name.May(api.Name{{Type: k, Value: "DE"}}); got != want {
			t.Errorf("the type %d: %t", k, got)
		}
	}
}

// P12.1: Values of each length, of each type: it is bytes that count, not characters.
func TestMayLengths(t *testing.T) {
	if api.MaxValue != 64 || api.MaxAttrs != 16 {
		t.Fatal(api.MaxValue, api.MaxAttrs)
	}
	for length := range 130 {
		for _, k := range types {
			n := api.Name{{Type: k, Value: strings.Repeat("A", length)}}
			want := length >= 1 && length <= 64
			if k == 6 {
				want = length == 2
			}
			if got := name.May(n); got != want {
				t.Errorf("%d bytes of the type %d: %t", length, k, got)
			}
		}
		for _, k := range free {
			n := api.Name{{Type: k, Value: strings.Repeat("\u00e9", length)}}
			if got := name.May(n); got != (length >= 1 && length <= 32) {
				t.Errorf("%d characters of two bytes, of the type %d: %t", length, k, got)
			}
		}
	}
}

// P12.1: each byte in a Value, and each two as one, of each type.
func TestMayBytes(t *testing.T) {
	for x := range 256 {
		for y := range 256 {
			v := string([]byte{byte(x), byte(y)})
			for _, k := range types {
				n := api.Name{{Type: k, Value: v}}
				if got := name.May(n); got != may(n) {
					t.Fatalf("May(%s): %t", show(n), got)
				}
			}
		}
		for _, v := range []string{string([]byte{byte(x)}), "a" + string([]byte{byte(x)}) + "b"} {
			for _, k := range types {
				n := api.Name{{Type: k, Value: v}}
				if may(n) {
					takes(t, n, libraryBytes(t, n), textOf(n))
				} else {
					refuses(t, n)
				}
			}
		}
	}
}

// P12.1: as many attributes as may be, and one more, and many more.
func TestMayMany(t *testing.T) {
	for _, a := range goods() {
		takes(t, slices.Repeat(api.Name{a}, 15), libraryBytes(t, slices.Repeat(api.Name{a}, 15)), textOf(slices.Repeat(api.Name{a}, 15)))
		takes(t, slices.Repeat(api.Name{a}, 16), libraryBytes(t, slices.Repeat(api.Name{a}, 16)), textOf(slices.Repeat(api.Name{a}, 16)))
		refuses(t, slices.Repeat(api.Name{a}, 17))
	}
	for _, count := range []int{18, 32, 256, 257, 272, 1 << 16, 1<<16 + 1, 1 << 20} {
		refuses(t, slices.Repeat(api.Name{{Type: 3, Value: "a"}}, count))
	}
}

// P12.1: the tag of a Value is the one that Kind says: of the kind 22 alone it is 12 too.
func TestEncodeTags(t *testing.T) {
	for v, tag := range map[string]byte{"a b": 0x13, "a=,": 0x13, "a@b": 0x0c, "a_": 0x0c, `\`: 0x0c, "\x00": 0x0c, "\u00e9": 0x0c, "a\u20ac": 0x0c} {
		for _, k := range free {
			want := whole(pair(element(0x06, []byte{0x55, 0x04, byte(k)}), element(tag, []byte(v))))
			if b, e := name.Encode(api.Name{{Type: k, Value: v}}); e != api.OK || !bytes.Equal(b, want) {
				t.Errorf("%q of the type %d: %x, error %d; want %x", v, k, b, e, want)
			}
		}
	}
}
