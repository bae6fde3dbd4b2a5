package ext_test

import (
	"math"
	"slices"
	"strings"
	"testing"

	"chancery/api"
	"chancery/ext"
	"chancery/probe"
)

// knownExts are lists with their bytes, written out.
var knownExts = []struct {
	l     []api.Ext
	bytes string
}{
	{[]api.Ext{{Id: 19, Critical: true, Value: []byte{0x30, 0}}}, "30 0e 30 0c 06 03 55 1d 13 01 01 ff 04 02 30 00"},
	{[]api.Ext{{Id: 19, Value: []byte{0x30, 0}}}, "30 0b 30 09 06 03 55 1d 13 04 02 30 00"},
	{[]api.Ext{{Id: 0}}, "30 09 30 07 06 03 55 1d 00 04 00"},
	{[]api.Ext{{Id: 0, Critical: true}}, "30 0c 30 0a 06 03 55 1d 00 01 01 ff 04 00"},
	{[]api.Ext{{Id: 127, Value: []byte{0}}}, "30 0a 30 08 06 03 55 1d 7f 04 01 00"},
	{[]api.Ext{{Id: 127}, {Id: 0, Critical: true}}, "30 15 30 07 06 03 55 1d 7f 04 00 30 0a 06 03 55 1d 00 01 01 ff 04 00"},
	{
		[]api.Ext{{Id: 15, Critical: true, Value: []byte{3, 2, 2, 0x84}}, {Id: 14, Value: []byte{4, 0}}, {Id: 37, Value: []byte("x")}},
		"30 25 30 0e 06 03 55 1d 0f 01 01 ff 04 04 03 02 02 84 30 09 06 03 55 1d 0e 04 02 04 00 30 08 06 03 55 1d 25 04 01 78",
	},
	{[]api.Ext{{Id: 1, Value: []byte(strings.Repeat("a", 127))}}, "30 81 89 30 81 86 06 03 55 1d 01 04 7f" + strings.Repeat("61", 127)},
	{[]api.Ext{{Id: 1, Value: []byte(strings.Repeat("a", 128))}}, "30 81 8b 30 81 88 06 03 55 1d 01 04 81 80" + strings.Repeat("61", 128)},
	{[]api.Ext{{Id: 1, Value: []byte(strings.Repeat("a", 256))}}, "30 82 01 0d 30 82 01 09 06 03 55 1d 01 04 82 01 00" + strings.Repeat("61", 256)},
	{[]api.Ext{{Id: 1, Value: []byte(strings.Repeat("a", 65536))}}, "30 83 01 00 0f 30 83 01 00 0a 06 03 55 1d 01 04 83 01 00 00" + strings.Repeat("61", 65536)},
}

// P15.1: lists that are written out.
func TestKnownExts(t *testing.T) {
	for _, c := range knownExts {
		exts().takes(t, c.l, raw(c.bytes))
	}
}

// P15.1: lists of each sort that may be, and that may not.
func TestExtSorts(t *testing.T) { exts().sortsOf(t) }

// P15.1: as many extensions as may be, one more, and none.
func TestExtCounts(t *testing.T) {
	k := exts()
	for n := range 129 {
		if got := k.asWords(t, probe.ExtRow(n)); got != (n >= 1 && n <= 16) {
			t.Errorf("%d extensions: %t", n, got)
		}
		b, _ := k.bytes(probe.ExtRow(n))
		if got := k.AsShould(t, b); got != (n >= 1 && n <= 16) {
			t.Errorf("the bytes of %d extensions: %t", n, got)
		}
	}
	k.refuses(t, make([]api.Ext, 1<<16))
	k.refuses(t, make([]api.Ext, 1<<16+1))
	k.refuses(t, slices.Repeat(probe.ExtRow(1), 256+1))
}

// P15.1: each Id, alone and at the end; those near the bounds in bytes too.
func TestExtIds(t *testing.T) {
	k := exts()
	for id := -300; id <= 300; id++ {
		may := id >= 0 && id <= 127
		alone := []api.Ext{{Id: id, Value: []byte("v")}}
		if got := k.asWords(t, alone); got != may {
			t.Errorf("the Id %d: %t", id, got)
		}
		two := []api.Ext{{Id: (id + 1) & 127}, {Id: id, Critical: true}}
		if got := k.asWords(t, two); got != may {
			t.Errorf("the Id %d behind another one: %t", id, got)
		}
		if id < 0 {
			continue
		}
		for _, l := range [][]api.Ext{alone, two} {
			b, err := k.bytes(l)
			if err != nil {
				t.Fatal(err)
			}
			if got := k.AsShould(t, b); got != may {
				t.Errorf("the bytes of the Id %d: %t", id, got)
			}
		}
	}
	for _, id := range []int{1 << 14, 1<<16 + 19, 1<<31 - 1} {
		b, _ := k.bytes([]api.Ext{{Id: id}})
		k.None(t, "a great Id", b)
	}
}

// P15.1: an Id twice, at each two places of as many as may be, whatever else they have.
func TestExtTwice(t *testing.T) {
	k := exts()
	for n := 2; n <= 16; n++ {
		for i := range n {
			for j := range i {
				l := probe.ExtRow(n)
				l[i].Id = l[j].Id
				k.refuses(t, l)
				b, _ := k.bytes(l)
				k.None(t, "an Id twice", b)
				l[i] = l[j]
				k.refuses(t, l)
				b, _ = k.bytes(l)
				k.None(t, "an extension twice", b)
			}
		}
	}
}

// P15.1: Values of lengths that take one to four bytes to say, with other ones around, critical and not; one byte more than may be at each place.
func TestExtValues(t *testing.T) {
	k := exts()
	for _, n := range lengths() {
		v := []byte(strings.Repeat("v", n))
		for _, l := range [][]api.Ext{{{Id: 3, Value: v}}, {{Id: 3, Critical: true, Value: v}}, {{Id: 3}, {Id: 4, Critical: true, Value: v}, {Id: 5, Value: []byte("w")}}} {
			if !k.asWords(t, l) {
				t.Errorf("a Value of %d bytes may not be", n)
			}
		}
	}
	for n := range 300 {
		k.asWords(t, []api.Ext{{Id: 3, Value: []byte(strings.Repeat("v", n))}})
	}
	for i := range 16 {
		l := probe.ExtRow(16)
		l[i].Value = make([]byte, 65536)
		b, _ := k.bytes(l)
		k.takes(t, l, b)
		for _, more := range []int{65537, 1 << 17, 1<<17 + 1} {
			l[i].Value = make([]byte, more)
			k.refuses(t, l)
			b, _ = k.bytes(l)
			k.None(t, "a Value too long", b)
		}
	}
	l := probe.ExtRow(16)
	for i := range l {
		l[i].Value = []byte(strings.Repeat(string([]byte{byte(i)}), 65536))
	}
	b, _ := k.bytes(l)
	k.takes(t, l, b)
}

// P15.1: each byte as a Value, and Values that look like what stands around them.
func TestExtValueBytes(t *testing.T) {
	k := exts()
	for x := range 256 {
		k.asWords(t, []api.Ext{{Id: x / 2, Critical: x%2 == 0, Value: []byte{byte(x)}}, {Id: 127 - x/2 ^ 1, Value: []byte{byte(x), byte(x)}}})
	}
	for _, c := range knownExts {
		k.asWords(t, []api.Ext{{Id: 9, Value: raw(c.bytes)[:min(60, len(raw(c.bytes)))]}, {Id: 10}})
	}
}

// P15.1: bytes that are no extensions', written out.
func TestNoExts(t *testing.T) {
	k := exts()
	k.takes(t, []api.Ext{{Id: 19, Value: []byte{1}}}, raw("30 0a 30 08 06 03 55 1d 13 04 01 01"))
	for digits, what := range map[string]string{
		"30 00":                                                             "none",
		"30 02 30 00":                                                       "an empty one",
		"30 81 00":                                                          "none, a length not the shortest",
		"30 80 00 00":                                                       "no length",
		"31 0a 30 08 06 03 55 1d 13 04 01 01":                               "another tag",
		"30 0a 31 08 06 03 55 1d 13 04 01 01":                               "another tag of one",
		"30 0a 30 08 0d 03 55 1d 13 04 01 01":                               "another tag of the object identifier",
		"30 0a 30 08 06 03 55 1d 13 24 01 01":                               "another tag of the Value",
		"30 0a 30 08 06 03 55 1d 13 0c 01 01":                               "another tag of the Value",
		"30 0a 30 08 06 03 55 1c 13 04 01 01":                               "another beginning",
		"30 0a 30 08 06 03 54 1d 13 04 01 01":                               "another beginning",
		"30 09 30 07 06 02 55 1d 04 01 01":                                  "a shorter object identifier",
		"30 08 30 06 06 01 55 04 01 01":                                     "a shorter object identifier",
		"30 07 30 05 06 00 04 01 01":                                        "no object identifier's content",
		"30 0b 30 09 06 04 55 1d 13 00 04 01 01":                            "a longer object identifier",
		"30 0b 30 09 06 04 55 1d 81 00 04 01 01":                            "the Id 128",
		"30 0b 30 09 06 04 55 1d 80 13 04 01 01":                            "an arc that begins with 80",
		"30 0a 30 08 06 03 55 1d 93 04 01 01":                               "an arc cut short",
		"30 05 30 03 04 01 01":                                              "no object identifier",
		"30 07 30 05 06 03 55 1d 13":                                        "no Value",
		"30 0a 30 08 04 01 01 06 03 55 1d 13":                               "another order",
		"30 0d 30 0b 01 01 ff 06 03 55 1d 13 04 01 01":                      "another order",
		"30 0d 30 0b 06 03 55 1d 13 04 01 01 01 01 ff":                      "another order",
		"30 0d 30 0b 06 03 55 1d 13 01 01 00 04 01 01":                      "false written",
		"30 0d 30 0b 06 03 55 1d 13 01 01 01 04 01 01":                      "another true",
		"30 0d 30 0b 06 03 55 1d 13 01 01 fe 04 01 01":                      "another true",
		"30 0d 30 0b 06 03 55 1d 13 81 01 ff 04 01 01":                      "another tag of true",
		"30 0d 30 0b 06 03 55 1d 13 02 01 ff 04 01 01":                      "another tag of true",
		"30 0c 30 0a 06 03 55 1d 13 01 00 04 01 01":                         "true without a byte",
		"30 0e 30 0c 06 03 55 1d 13 01 02 ff ff 04 01 01":                   "true of two bytes",
		"30 10 30 0e 06 03 55 1d 13 01 01 ff 01 01 ff 04 01 01":             "true twice",
		"30 0d 30 0b 06 03 55 1d 13 04 01 01 04 01 01":                      "the Value twice",
		"30 0f 30 0d 06 03 55 1d 13 06 03 55 1d 13 04 01 01":                "the object identifier twice",
		"30 0c 30 0a 06 03 55 1d 13 04 01 01 05 00":                         "one element more",
		"30 0c 30 0a 05 00 06 03 55 1d 13 04 01 01":                         "one element more ahead",
		"30 0c 30 08 06 03 55 1d 13 04 01 01 05 00":                         "one element more behind",
		"30 0c 05 00 30 08 06 03 55 1d 13 04 01 01":                         "one element more ahead of all",
		"30 0a 30 08 06 03 55 1d 13 04 01 01 00":                            "a byte more",
		"30 0b 30 08 06 03 55 1d 13 04 01 01 00":                            "a byte more inside",
		"30 0a 30 08 06 03 55 1d 13 04 01":                                  "a byte fewer",
		"30 81 0a 30 08 06 03 55 1d 13 04 01 01":                            "a length not the shortest",
		"30 0b 30 81 08 06 03 55 1d 13 04 01 01":                            "a length not the shortest",
		"30 0b 30 09 06 81 03 55 1d 13 04 01 01":                            "a length not the shortest",
		"30 0b 30 09 06 03 55 1d 13 04 81 01 01":                            "a length not the shortest",
		"30 08 06 03 55 1d 13 04 01 01":                                     "one alone",
		"30 0c 30 0a 30 08 06 03 55 1d 13 04 01 01":                         "a list too many around it",
		"30 0f 30 0d 30 0b 06 03 55 1d 13 04 01 01 05 00":                   "something else",
		"30 14 30 08 06 03 55 1d 13 04 01 01 30 08 06 03 55 1d 13 04 01 02": "an Id twice",
		"30 14 30 08 06 03 55 1d 13 04 01 01 30 08 06 03 55 1c 12 04 01 02": "the second one not",
		"30 08 30 06 06 01 2a 04 01 01":                                     "another object identifier",
		"30 10 30 0e 06 09 2b 06 01 05 05 07 03 55 13 04 01 01":             "another object identifier",
	} {
		k.None(t, what, raw(digits))
	}
}

// P15.1: the first one of an Id, a later one, one that is not there, of two with the same Id the first.
func TestFind(t *testing.T) {
	l := []api.Ext{
		{Id: 19, Critical: true, Value: []byte("first")}, {Id: 15, Value: []byte("second")}, {Id: 19, Value: []byte("third")}, {Id: 14}, {Id: 15, Critical: true}, {Id: 0, Critical: true, Value: []byte("zero")}, {Id: 127, Value: []byte{0}}, {Id: 0},
		{Id: -1, Value: []byte("below")}, {Id: 128, Critical: true}, {Id: math.MaxInt, Value: make([]byte, 65537)}, {Id: math.MinInt}, {Id: -1, Critical: true},
	}
	for id, want := range map[int]int{19: 0, 15: 1, 14: 3, 0: 5, 127: 6, -1: 8, 128: 9, math.MaxInt: 10, math.MinInt: 11} {
		if x, found := ext.Find(l, id); !found || !probe.SameExt(x, l[want]) {
			t.Errorf("Find of %d: %.100q, %t", id, show(x), found)
		}
	}
	for _, id := range []int{1, 2, 13, 16, 18, 20, 126, 129, 256, 256 + 19, 1<<32 + 19, -2, -19, math.MaxInt - 1, math.MinInt + 1, math.MinInt + 19} {
		if x, found := ext.Find(l, id); found || !probe.SameExt(x, api.Ext{}) {
			t.Errorf("Find of %d: %.100q, %t", id, show(x), found)
		}
	}
	if x, found := ext.Find(l[:5], 0); found || !probe.SameExt(x, api.Ext{}) {
		t.Errorf("Find of 0: %q, %t", show(x), found)
	}
}

// P15.1: each one of rows, whatever stands ahead of it, and of more than may be.
func TestFindEach(t *testing.T) {
	for _, n := range []int{1, 2, 16, 17, 128} {
		l := probe.ExtRow(n)
		for i, want := range l {
			if x, found := ext.Find(l, want.Id); !found || !probe.SameExt(x, want) {
				t.Errorf("of %d Find of the Id %d: %q, %t", n, want.Id, show(x), found)
			}
			if x, found := ext.Find(l[:i], want.Id); found || !probe.SameExt(x, api.Ext{}) {
				t.Errorf("of the first %d Find of the Id %d: %q, %t", i, want.Id, show(x), found)
			}
			twice := append(slices.Clone(l), api.Ext{Id: want.Id, Critical: !want.Critical, Value: []byte("later")})
			if x, found := ext.Find(twice, want.Id); !found || !probe.SameExt(x, want) {
				t.Errorf("of two Find of the Id %d: %q, %t", want.Id, show(x), found)
			}
		}
	}
}
