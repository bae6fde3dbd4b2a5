package cert_test

import (
	"bytes"
	"encoding/hex"
	"math/bits"
	"slices"
	"testing"

	"chancery/api"
	"chancery/probe"
)

// strangers are elements that are laid beside those that should be there, or in their places.
func strangers() []string {
	return []string{"05 00", "01 01 ff", "02 01 00", "02 01 02", "02 01 05", "02 02 00 80", "03 01 00", "04 00", "06 03 55 04 03", "06 08 2a 86 48 ce 3d 04 03 02", "0c 01 61", "13 01 61", "17 00", "30 00", "31 00", "30 0a 06 08 2a 86 48 ce 3d 04 03 02", "81 00", "82 00", "a0 03 02 01 02", "a3 00", "a3 02 30 00", "00 00"}
}

// sample are bytes of a face up to a length: where there are many, one of each several.
func sample(t *testing.T, f face, longest, most int) [][]byte {
	t.Helper()
	var l [][]byte
	for _, b := range f.some() {
		if len(b) <= longest {
			l = append(l, b)
		}
	}
	if len(l) == 0 {
		t.Fatalf("%s: no samples", f.name())
	}
	step := max(1, len(l)/most)
	var out [][]byte
	for i := 0; i < len(l); i += step {
		out = append(out, l[i])
	}
	return out
}

// P16.1 to P16.4: bytes of each sort that should be taken.
func TestSamples(t *testing.T) {
	for _, f := range faces(t) {
		for _, b := range f.some() {
			if !f.asLibrary(t, b) {
				t.Errorf("%s: %.600x is not taken", f.name(), b)
			}
		}
	}
}

// P16.1 to P16.4: bytes that are cut short, at each place, or that have more behind them.
func TestCutShort(t *testing.T) {
	for _, f := range faces(t) {
		for _, b := range sample(t, f, 1000, 20) {
			for end := range b {
				f.none(t, "cut short", b[:end])
			}
			for x := range 256 {
				f.none(t, "a byte more", append(bytes.Clone(b), byte(x)))
			}
			f.none(t, "twice", slices.Concat(b, b))
			f.none(t, "two bytes more", append(bytes.Clone(b), 5, 0))
			f.none(t, "without the first byte", b[1:])
		}
	}
}

// others are the bytes that may stand in a byte's place: all of them, or those that are one bit away.
func others(was byte, all bool) []byte {
	var l []byte
	for x := range 256 {
		if all || bits.OnesCount8(was^byte(x)) == 1 {
			l = append(l, byte(x))
		}
	}
	return l
}

// P16.1 to P16.4: bytes of which one is another one, at each place; one more, and one fewer.
func TestOneByte(t *testing.T) {
	for _, f := range faces(t) {
		taken, count := 0, 0
		for i, b := range sample(t, f, 330, 4) {
			for at, was := range b {
				for _, x := range others(was, i == 0) {
					b[at] = x
					if count++; f.asLibrary(t, b) {
						taken++
					}
				}
				b[at] = was
				f.asLibrary(t, slices.Delete(bytes.Clone(b), at, at+1))
				for _, x := range []byte{0, 1, was, 0x30, 0x80, 0xff} {
					f.asLibrary(t, slices.Insert(bytes.Clone(b), at, x))
				}
			}
		}
		if taken == 0 || taken == count {
			t.Errorf("%s: %d of %d are taken", f.name(), taken, count)
		}
	}
}

// P16.1 to P16.4: each element changed in each way of many, its length and those around it set right: the library tells what is still one.
func TestOneElement(t *testing.T) {
	for _, f := range faces(t) {
		count, taken := 0, 0
		for _, b := range sample(t, f, 330, 3) {
			for what, near := range probe.Altered(b, strangers()...) {
				count++
				if f.asLibrary(t, near) {
					taken++
				} else if bytes.Equal(near, b) {
					t.Fatalf("%s: %x, %s, is not taken", f.name(), b, what)
				}
			}
		}
		if taken == 0 || taken == count {
			t.Errorf("%s: %d of %d are taken", f.name(), taken, count)
		}
	}
}

// P16.3, P16.4: the same of the signature's elements, which stand in bits.
func TestOneElementOfSignature(t *testing.T) {
	body := bodyBytes(plain())
	whole := certReader(t)
	for _, s := range signatures() {
		for what, near := range probe.Altered(signatureBytes(s), strangers()...) {
			b := probe.Put(0x30, body, raw(ecdsaWithSHA256), probe.Put(3, []byte{0}, near))
			if _, ok := parseSignature(near); whole.asLibrary(t, b) != ok {
				t.Fatalf("%s: %x is taken: %t", what, near, !ok)
			}
		}
	}
}

// P16.1 to P16.4: lengths that are not the shortest, of each element of long ones too.
func TestLongerLengths(t *testing.T) {
	for _, f := range faces(t) {
		for _, b := range sample(t, f, 70000, 20) {
			count := len(probe.Tree(b).All())
			for i := range count {
				for _, long := range []int{1, 2, 3, -1} {
					root := probe.Tree(b)
					root.All()[i].Long = long
					near := root.Inner()
					if f.is(near) { // what is said of lengths within a body that is any element is not looked at
						f.asLibrary(t, near)
						continue
					}
					f.none(t, "a length not the shortest", near)
				}
			}
		}
	}
}

// P16.1 to P16.4: the bytes of each sort, read as those of each other one.
func TestOtherKinds(t *testing.T) {
	for _, f := range faces(t) {
		for _, other := range faces(t) {
			for _, b := range sample(t, other, 3000, 40) {
				f.asLibrary(t, b)
				f.asLibrary(t, probe.Put(0x30, b))
				f.asLibrary(t, probe.Put(0x04, b))
				f.asLibrary(t, probe.Tree(b).Parts[0].Inner())
			}
		}
	}
}

// P1, P16.1 to P16.5: no bytes break it: all short rows, those that look like chance, alone and in elements.
func TestOfAny(t *testing.T) {
	var draws probe.Draws
	for _, f := range faces(t) {
		for b := range probe.Short([]byte{0x00, 0x01, 0x02, 0x03, 0x30, 0x80, 0xa0, 0xff}, 4) {
			f.asLibrary(t, b)
		}
		for i := range 1000 {
			b := draws.Bytes(i % 90)
			f.asLibrary(t, b)
			f.asLibrary(t, probe.Put(0x30, b))
			f.asLibrary(t, probe.Put(0x30, probe.Put(0x30, b), probe.Put(3, b)))
			f.asLibrary(t, probe.Put(0x30, probe.Put(0xa0, b), probe.Put(2, b), raw(ecdsaWithSHA256), probe.Put(0x30, b), probe.Put(0x30, b), probe.Put(0x30, b), probe.Put(0x30, b), probe.Put(0xa3, b)))
			f.asLibrary(t, probe.Put(0x30, probe.Put(0x30, b), raw(ecdsaWithSHA256), probe.Put(3, b)))
		}
	}
}

// P1, P16.1 to P16.4: very many elements, and very long ones, are refused, and in no long time.
func TestVeryMany(t *testing.T) {
	const size = 1 << 18
	rows := [][]byte{{5, 0}, {0x30, 0}, {0x31, 0}, raw("02 01 05"), raw(ecdsaWithSHA256), raw(baseKey), raw("a0 03 02 01 02"), raw("a3 02 30 00"), {0x30}, {0}, {0xff}, {0x30, 0x80}}
	for _, f := range faces(t) {
		for _, one := range rows {
			b := bytes.Repeat(one, size/len(one))
			f.none(t, "very many", b)
			for _, tag := range []byte{0x30, 0x03, 0x02, 0xa0, 0xa3} {
				f.none(t, "very many in one", probe.Put(tag, b))
				f.none(t, "very many in two", probe.Put(0x30, probe.Put(tag, b)))
				f.none(t, "very many in three", probe.Put(0x30, probe.Put(0x30, probe.Put(tag, b))))
			}
		}
		deep := []byte{}
		for range 2000 {
			deep = probe.Put(0x30, deep)
		}
		f.none(t, "very deep", deep)
		f.none(t, "too long for an element", make([]byte, api.MaxContent+10))
	}
	r := bodyReader()
	for i := range parted() {
		for _, one := range rows {
			many := probe.Put(0x30, bytes.Repeat(one, size/len(one)))
			r.none(t, "very many in a part", with(i, hex.EncodeToString(many)))
		}
	}
}
