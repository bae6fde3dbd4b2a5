package probe_test

import (
	"bytes"
	"testing"

	"chancery/probe"
)

func TestPut(t *testing.T) {
	for n, head := range map[int]string{0: "04 00", 1: "04 01", 127: "04 7f", 128: "04 81 80", 255: "04 81 ff", 256: "04 82 01 00", 65535: "04 82 ff ff", 65536: "04 83 01 00 00"} {
		want := append(probe.Raw(head), make([]byte, n)...)
		if b := probe.Put(4, make([]byte, n/2), make([]byte, n-n/2)); !bytes.Equal(b, want) {
			t.Errorf("of %d bytes: %.20x", n, b)
		}
	}
}

func TestTree(t *testing.T) {
	b := probe.Raw("30 0a 02 01 05 30 05 05 00 a0 01 00 04 02 05 00")
	root := probe.Tree(b)
	l := root.All()
	var tags []byte
	for _, n := range l {
		tags = append(tags, n.Tag)
	}
	if !bytes.Equal(tags, probe.Raw("30 02 30 05 a0 04")) || !bytes.Equal(root.Inner(), b) {
		t.Fatalf("%x, %x", tags, root.Inner())
	}
	for i, inner := range []string{"02 01 05 30 05 05 00 a0 01 00", "05", "05 00 a0 01 00", "", "00", "05 00"} {
		if !bytes.Equal(l[i].Inner(), probe.Raw(inner)) {
			t.Errorf("the element %d: %x", i, l[i].Inner())
		}
	}
	for long, want := range map[int]string{0: "02 01 05", 1: "02 81 01 05", 2: "02 82 00 01 05", 3: "02 83 00 00 01 05", -1: "02 80 05 00 00"} {
		l[1].Long = long
		if !bytes.Equal(l[1].Written(), probe.Raw(want)) {
			t.Errorf("a length %d longer: %x", long, l[1].Written())
		}
	}
	many := probe.Tree(probe.Put(4, make([]byte, 128))).All()[0]
	many.Long = 1
	if !bytes.Equal(many.Written()[:4], probe.Raw("04 82 00 80")) {
		t.Errorf("%.10x", many.Written())
	}
}

func TestAltered(t *testing.T) {
	b := probe.Raw("30 06 02 01 05 04 01 06")
	got := map[string][]byte{}
	for what, near := range probe.Altered(b, "05 00") {
		got[what] = near
	}
	for what, want := range map[string]string{
		"the element 0 of tag 30: missing":             "",
		"the element 1 of tag 2: missing":              "30 03 04 01 06",
		"the element 1 of tag 2: twice":                "30 09 02 01 05 02 01 05 04 01 06",
		"the element 1 of tag 2: behind the next one":  "30 06 04 01 06 02 01 05",
		"the element 2 of tag 4: behind the next one":  "30 06 02 01 05 04 01 06",
		"the element 1 of tag 2: at the end":           "30 06 04 01 06 02 01 05",
		"the element 1 of tag 2: within another one":   "30 08 02 03 02 01 05 04 01 06",
		"the element 1 of tag 2: within a sequence":    "30 08 30 03 02 01 05 04 01 06",
		"the element 0 of tag 30: without itself":      "02 01 05 04 01 06",
		"the element 1 of tag 2: empty":                "30 05 02 00 04 01 06",
		"the element 1 of tag 2: a byte fewer":         "30 05 02 00 04 01 06",
		"the element 0 of tag 30: a byte fewer":        "30 05 02 01 05 04 01",
		"the element 0 of tag 30: a byte fewer ahead":  "30 05 01 05 04 01 06",
		"the element 2 of tag 4: a byte ff more":       "30 07 02 01 05 04 02 06 ff",
		"the element 2 of tag 4: a byte 80 more ahead": "30 07 02 01 05 04 02 80 06",
		"the element 1 of tag 2: a length 2 longer":    "30 08 02 82 00 01 05 04 01 06",
		"the element 0 of tag 30: a length -1 longer":  "30 80 02 01 05 04 01 06 00 00",
		"the element 1 of tag 2: the tag 9f":           "30 06 9f 01 05 04 01 06",
		"the element 1 of tag 2: 05 00 ahead":          "30 08 05 00 02 01 05 04 01 06",
		"the element 1 of tag 2: 05 00 behind":         "30 08 02 01 05 05 00 04 01 06",
		"the element 1 of tag 2: 05 00 in its place":   "30 05 05 00 04 01 06",
		"the element 0 of tag 30: a byte 0 more ahead": "30 07 00 02 01 05 04 01 06",
		"the element 0 of tag 30: 05 00 in its place":  "05 00",
		"the element 0 of tag 30: the tag 0":           "00 06 02 01 05 04 01 06",
		"the element 2 of tag 4: at the end":           "30 06 02 01 05 04 01 06",
		"the element 2 of tag 4: a length 1 longer":    "30 07 02 01 05 04 81 01 06",
		"the element 2 of tag 4: within a sequence":    "30 08 02 01 05 30 03 04 01 06",
		"the element 2 of tag 4: 05 00 behind":         "30 08 02 01 05 04 01 06 05 00",
		"the element 1 of tag 2: a byte 7f more":       "30 07 02 02 05 7f 04 01 06",
		"the element 1 of tag 2: a byte 1 more ahead":  "30 07 02 02 01 05 04 01 06",
		"the element 1 of tag 2: a length 3 longer":    "30 09 02 83 00 00 01 05 04 01 06",
		"the element 2 of tag 4: a byte fewer ahead":   "30 05 02 01 05 04 00",
		"the element 0 of tag 30: twice":               "30 06 02 01 05 04 01 06 30 06 02 01 05 04 01 06",
		"the element 0 of tag 30: within another one":  "30 08 30 06 02 01 05 04 01 06",
		"the element 0 of tag 30: 05 00 behind":        "30 06 02 01 05 04 01 06 05 00",
		"the element 1 of tag 2: without itself":       "30 03 04 01 06",
		"the element 0 of tag 30: empty":               "30 00",
		"the element 0 of tag 30: a byte 80 more":      "30 07 02 01 05 04 01 06 80",
		"the element 0 of tag 30: a length 1 longer":   "30 81 06 02 01 05 04 01 06",
		"the element 2 of tag 4: the tag ff":           "30 06 02 01 05 ff 01 06",
	} {
		near, there := got[what]
		if !there || !bytes.Equal(near, probe.Raw(want)) {
			t.Errorf("%s: %x, %t", what, near, there)
		}
	}
	for range probe.Altered(b) {
		break
	}
	if !bytes.Equal(b, probe.Raw("30 06 02 01 05 04 01 06")) {
		t.Errorf("%x is changed", b)
	}
}
