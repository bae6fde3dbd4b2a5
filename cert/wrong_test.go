package cert_test

import (
	"bytes"
	"encoding/hex"
	"testing"

	"chancery/probe"
)

// strangers are elements that are laid beside those that should be there, or in their places.
func strangers() []string {
	return []string{"05 00", "01 01 ff", "02 01 00", "02 01 02", "02 01 05", "02 02 00 80", "03 01 00", "04 00", "06 03 55 04 03", "06 08 2a 86 48 ce 3d 04 03 02", "0c 01 61", "13 01 61", "17 00", "30 00", "31 00", "30 0a 06 08 2a 86 48 ce 3d 04 03 02", "81 00", "82 00", "a0 03 02 01 02", "a3 00", "a3 02 30 00", "00 00"}
}

// P16.1 to P16.4: bytes of each sort that should be taken.
func TestSamples(t *testing.T) {
	for _, f := range faces(t) {
		probe.Taken(t, f)
	}
}

// P16.1 to P16.4: bytes that are cut short, at each place, or that have more behind them.
func TestCutShort(t *testing.T) {
	for _, f := range faces(t) {
		probe.CutShort(t, f, 1000, 20)
	}
}

// P16.1 to P16.4: bytes of which one is another one, at each place; one more, and one fewer.
func TestOneByte(t *testing.T) {
	for _, f := range faces(t) {
		probe.OneByte(t, f, 330, 4)
	}
}

// P16.1 to P16.4: each element changed in each way of many, its length and those around it set right: the library tells what is still one.
func TestOneElement(t *testing.T) {
	for _, f := range faces(t) {
		probe.OneElement(t, f, 330, 3, strangers()...)
	}
}

// P16.3, P16.4: the same of the signature's elements, which stand in bits.
func TestOneElementOfSignature(t *testing.T) {
	body := bodyBytes(plain())
	whole := certReader(t)
	for _, s := range signatures() {
		for what, near := range probe.Altered(signatureBytes(s), strangers()...) {
			b := probe.Put(0x30, body, raw(ecdsaWithSHA256), probe.Put(3, []byte{0}, near))
			if _, ok := parseSignature(near); whole.AsShould(t, b) != ok {
				t.Fatalf("%s: %x is taken: %t", what, near, !ok)
			}
		}
	}
}

// P16.1 to P16.4: lengths that are not the shortest, of each element of long ones too; what is said of lengths within a body that is any element is not looked at.
func TestLongerLengths(t *testing.T) {
	for _, f := range faces(t) {
		probe.LongerLengths(t, f, 70000, 20)
	}
}

// P16.1 to P16.4: the bytes of each sort, read as those of each other one.
func TestOtherKinds(t *testing.T) {
	for _, f := range faces(t) {
		for _, other := range faces(t) {
			probe.OtherKinds(t, f, other, 3000, 40)
		}
	}
}

// P1, P16.1 to P16.5: no bytes break it: all short rows, those that look like chance, alone and in elements.
func TestOfAny(t *testing.T) {
	for _, f := range faces(t) {
		probe.OfAny(t, f, 1000, func(b []byte) [][]byte {
			return [][]byte{
				probe.Put(0x30, b),
				probe.Put(0x30, probe.Put(0x30, b), probe.Put(3, b)),
				probe.Put(0x30, probe.Put(0xa0, b), probe.Put(2, b), raw(ecdsaWithSHA256), probe.Put(0x30, b), probe.Put(0x30, b), probe.Put(0x30, b), probe.Put(0x30, b), probe.Put(0xa3, b)),
				probe.Put(0x30, probe.Put(0x30, b), raw(ecdsaWithSHA256), probe.Put(3, b)),
			}
		})
	}
}

// many are bytes of which very many are laid behind one another.
func many() [][]byte {
	return [][]byte{{5, 0}, {0x30, 0}, {0x31, 0}, raw("02 01 05"), raw(ecdsaWithSHA256), raw(baseKey), raw("a0 03 02 01 02"), raw("a3 02 30 00"), {0x30}, {0}, {0xff}, {0x30, 0x80}}
}

// P1, P16.1 to P16.4: very many elements, and very long ones, are refused, and in no long time.
func TestVeryMany(t *testing.T) {
	for _, f := range faces(t) {
		probe.VeryMany(t, f, []byte{0x30, 0x03, 0x02, 0xa0, 0xa3}, many()...)
	}
	r := bodyReader()
	for i := range parted() {
		for _, one := range many() {
			r.None(t, "very many in a part", with(i, hex.EncodeToString(probe.Put(0x30, bytes.Repeat(one, (1<<18)/len(one))))))
		}
	}
}
