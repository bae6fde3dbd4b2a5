package ext_test

import (
	"bytes"
	"slices"
	"strings"
	"testing"

	"chancery/api"
	"chancery/ext"
	"chancery/probe"
)

// few are samples of a kind up to a length: where there are many one of each several.
func few(t *testing.T, f face, longest int) [][]byte {
	t.Helper()
	var l [][]byte
	for _, b := range f.samples(t) {
		if len(b) <= longest {
			l = append(l, b)
		}
	}
	if len(l) == 0 {
		t.Fatalf("%s: no samples", f.name())
	}
	step := max(1, len(l)/30)
	var out [][]byte
	for i := 0; i < len(l); i += step {
		out = append(out, l[i])
	}
	return out
}

// P15.1, P15.3: bytes that are cut short, at each place, or that have more behind them.
func TestCutShort(t *testing.T) {
	for _, f := range faces() {
		for _, b := range few(t, f, 400) {
			if !f.asLibrary(t, b) {
				t.Fatalf("%s: %x is not taken", f.name(), b)
			}
			for end := range b {
				f.noBytes(t, "cut short", b[:end])
			}
			for x := range 256 {
				f.noBytes(t, "a byte more", append(bytes.Clone(b), byte(x)))
			}
			f.noBytes(t, "twice", slices.Concat(b, b))
			f.noBytes(t, "two bytes more", append(bytes.Clone(b), 5, 0))
		}
	}
}

// P15.1, P15.3: bytes of which one is another one, at each place; one more, and one fewer.
func TestOneByte(t *testing.T) {
	for _, f := range faces() {
		for _, b := range few(t, f, 60) {
			for at, was := range b {
				for x := range 256 {
					b[at] = byte(x)
					f.asLibrary(t, b)
				}
				b[at] = was
				f.asLibrary(t, slices.Delete(bytes.Clone(b), at, at+1))
				for _, x := range []byte{0, 1, was, 0x30, 0x80, 0xff} {
					f.asLibrary(t, slices.Insert(bytes.Clone(b), at, x))
				}
			}
		}
	}
}

// P15.1, P15.3: each element changed in each way of many, its length and those around it set right: the library tells what is still a value's.
func TestOneElement(t *testing.T) {
	for _, f := range faces() {
		count, taken := 0, 0
		for i, b := range few(t, f, 120) {
			if i%4 != 0 && len(b) > 40 {
				continue
			}
			for what, near := range probe.Altered(b, strangers()...) {
				count++
				if f.asLibrary(t, near) {
					taken++
				} else if bytes.Equal(near, b) {
					t.Fatalf("%s: %x, %s, is not taken", f.name(), near, what)
				}
			}
		}
		if taken == 0 || taken == count {
			t.Errorf("%s: %d of %d are taken", f.name(), taken, count)
		}
	}
}

// P15.1, P15.3: lengths that are not the shortest, of each element of long values too.
func TestLongerLengths(t *testing.T) {
	for _, f := range faces() {
		for _, b := range few(t, f, 3000) {
			count := len(probe.Tree(b).All())
			for i := range count {
				for long := 1; long <= 3; long++ {
					root := probe.Tree(b)
					n := root.All()[i]
					n.Long = long
					f.noBytes(t, "a length not the shortest", root.Inner())
				}
			}
		}
	}
}

// P15.1, P15.3: the bytes of each kind, read as those of each other one.
func TestOtherKinds(t *testing.T) {
	for _, f := range faces() {
		for _, other := range faces() {
			for _, b := range few(t, other, 3000) {
				f.asLibrary(t, b)
				f.asLibrary(t, probe.Put(0x30, b))
				f.asLibrary(t, probe.Put(0x04, b))
				f.asLibrary(t, probe.Tree(b).Parts[0].Inner())
			}
		}
	}
}

// P1, P15.1, P15.3: no bytes break it: all short rows, those that look like chance, alone and in each kind's elements.
func TestOfAny(t *testing.T) {
	var draws probe.Draws
	for _, f := range faces() {
		for b := range probe.Short([]byte{0x00, 0x01, 0x02, 0x04, 0x30, 0x80, 0xa0, 0xff}, 4) {
			f.asLibrary(t, b)
		}
		for i := range 2000 {
			b := draws.Bytes(i % 90)
			f.asLibrary(t, b)
			for _, tag := range []byte{0x01, 0x02, 0x03, 0x04, 0x06, 0x0a, 0x30, 0x31} {
				f.asLibrary(t, probe.Put(tag, b))
			}
			f.asLibrary(t, probe.Put(0x30, probe.Put(0xa0, probe.Put(0x30, b))))
			f.asLibrary(t, probe.Put(0x30, probe.Put(0x30, b)))
		}
	}
}

// P1, P15.1, P15.3: very many elements, and very long ones, are refused, and in no long time.
func TestVeryMany(t *testing.T) {
	const size = 1 << 18
	rows := [][]byte{{5, 0}, {0x30, 0}, raw("82 01 61"), raw("30 03 82 01 61"), purposeBytes(1), raw("30 07 06 03 55 1d 13 04 00"), raw("01 01 ff"), raw("02 01 05"), raw("a0 05 30 03 82 01 61"), raw("a1 00"), raw("80 00"), raw("04 00"), {0x30}, {0}, {0xff}, {0x30, 0x80}}
	for _, f := range faces() {
		for _, one := range rows {
			b := bytes.Repeat(one, size/len(one))
			f.noBytes(t, "very many", b)
			for _, tag := range []byte{0x30, 0x04, 0x02, 0x03, 0x0a} {
				f.noBytes(t, "very many in one", probe.Put(tag, b))
			}
			f.noBytes(t, "very many in two", probe.Put(0x30, probe.Put(0x30, b)))
			f.noBytes(t, "very many in two", probe.Put(0x30, probe.Put(0xa0, b)))
			f.noBytes(t, "very many in two", probe.Put(0x30, probe.Put(0xa0, b), probe.Put(0xa1, b)))
			f.noBytes(t, "very many in two", probe.Put(0x30, probe.Put(0x82, b)))
			f.noBytes(t, "very many in two", probe.Put(0x30, probe.Put(0xa4, b)))
			f.noBytes(t, "very many in two", probe.Put(0x30, probe.Put(0x06, b)))
			f.noBytes(t, "very many in three", probe.Put(0x30, probe.Put(0xa0, probe.Put(0x30, b))))
			f.noBytes(t, "very many in three", probe.Put(0x30, probe.Put(0x30, probe.Put(0x06, b))))
		}
		deep := []byte{}
		for range 2000 {
			deep = probe.Put(0x30, deep)
		}
		f.noBytes(t, "very deep", deep)
		f.noBytes(t, "too long for an element", make([]byte, api.MaxContent+10))
	}
}

// P1, P15.1, P15.2: what is longer than an element's content may be is refused.
func TestVeryLong(t *testing.T) {
	long := strings.Repeat("a", api.MaxContent+1)
	for kind := range 9 {
		names().refuses(t, []api.General{{Kind: kind, Text: long}})
		trees().refuses(t, api.Trees{Excluded: []api.Subtree{{Kind: kind, Base: long}}})
	}
	exts().refuses(t, []api.Ext{{Id: 1, Value: []byte(long)}})
	if x, found := ext.Find([]api.Ext{{Id: 1, Value: []byte(long)}}, 1); !found || string(x.Value) != long {
		t.Errorf("%t, %d bytes", found, len(x.Value))
	}
}
