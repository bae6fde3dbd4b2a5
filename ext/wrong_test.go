package ext_test

import (
	"strings"
	"testing"

	"chancery/api"
	"chancery/ext"
	"chancery/probe"
)

// P15.1, P15.3: bytes that are cut short, at each place, or that have more behind them.
func TestCutShort(t *testing.T) {
	for _, f := range faces() {
		probe.Taken(t, f)
		probe.CutShort(t, f, 400, 30)
	}
}

// P15.1, P15.3: bytes of which one is another one, at each place; one more, and one fewer.
func TestOneByte(t *testing.T) {
	for _, f := range faces() {
		probe.OneByte(t, f, 60, 30)
	}
}

// P15.1, P15.3: each element changed in each way of many, its length and those around it set right: the library tells what is still a value's.
func TestOneElement(t *testing.T) {
	for _, f := range faces() {
		probe.OneElement(t, f, 40, 30, strangers()...)
		probe.OneElement(t, f, 120, 8, strangers()...)
	}
}

// P15.1, P15.3: lengths that are not the shortest, of each element of long values too.
func TestLongerLengths(t *testing.T) {
	for _, f := range faces() {
		probe.LongerLengths(t, f, 3000, 30)
	}
}

// P15.1, P15.3: the bytes of each kind, read as those of each other one.
func TestOtherKinds(t *testing.T) {
	for _, f := range faces() {
		for _, other := range faces() {
			probe.OtherKinds(t, f, other, 3000, 30)
		}
	}
}

// P1, P15.1, P15.3: no bytes break it: all short rows, those that look like chance, alone and in each kind's elements.
func TestOfAny(t *testing.T) {
	for _, f := range faces() {
		probe.OfAny(t, f, 2000, func(b []byte) [][]byte {
			l := [][]byte{probe.Put(0x30, probe.Put(0xa0, probe.Put(0x30, b))), probe.Put(0x30, probe.Put(0x30, b))}
			for _, tag := range []byte{0x01, 0x02, 0x03, 0x04, 0x06, 0x0a, 0x30, 0x31} {
				l = append(l, probe.Put(tag, b))
			}
			return l
		})
	}
}

// P1, P15.1, P15.3: very many elements, and very long ones, are refused, and in no long time.
func TestVeryMany(t *testing.T) {
	for _, f := range faces() {
		probe.VeryMany(t, f, []byte{0x30, 0x04, 0x02, 0x03, 0x06, 0x0a, 0x82, 0xa0, 0xa1, 0xa4},
			[]byte{5, 0}, []byte{0x30, 0}, raw("82 01 61"), raw("30 03 82 01 61"), purposeBytes(1), raw("30 07 06 03 55 1d 13 04 00"), raw("01 01 ff"), raw("02 01 05"),
			raw("a0 05 30 03 82 01 61"), raw("a1 00"), raw("80 00"), raw("04 00"), []byte{0x30}, []byte{0}, []byte{0xff}, []byte{0x30, 0x80})
	}
}

// P1, P15.1, P15.2: what is longer than an element's content may be is refused.
func TestVeryLong(t *testing.T) {
	long := strings.Repeat("a", api.MaxContent+1)
	for kind := range 9 {
		names().refuses(t, []api.General{{Kind: kind, Text: long}})
		trees().refuses(t, api.Trees{Excluded: []api.Subtree{{Kind: kind, Base: long}}})
	}
	exts().refuses(t, []api.Ext{{Id: 1, Value: []byte(long)}})
	if x, found := ext.Find([]api.Ext{{Id: 1, Value: []byte(long)}}, 1); !found || string(x.Value) != long {
		t.Errorf("%t, %d bytes", found, len(x.Value))
	}
}
