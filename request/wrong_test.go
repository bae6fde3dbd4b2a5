package request_test

import (
	"bytes"
	"encoding/hex"
	"testing"

	"chancery/probe"
)

// P17.1, P17.3: bytes of each sort that should be taken.
func TestSamples(t *testing.T) {
	for _, f := range faces() {
		probe.Taken(t, f)
	}
}

// P17.1, P17.3: bytes that are cut short, at each place, or that have more behind them.
func TestCutShort(t *testing.T) {
	for _, f := range faces() {
		probe.CutShort(t, f, 1000, 20)
	}
}

// P17.1, P17.3: bytes of which one is another one, at each place; one more, and one fewer. (What Check says of them costs more: TestCheckBits has it.)
func TestOneByte(t *testing.T) {
	for _, f := range faces()[:2] {
		probe.OneByte(t, f, 330, 4)
	}
}

// P17.1, P17.3: each element changed in each way of many, its length and those around it set right: the library tells what is still one.
func TestOneElement(t *testing.T) {
	for _, f := range faces() {
		probe.OneElement(t, f, 330, 4, strangers()...)
	}
}

// P17.3: the same of the signature's elements, which stand in bits.
func TestOneElementOfSignature(t *testing.T) {
	body := bodyBytes(plain())
	taken := 0
	for what, near := range probe.Altered(raw("30 07 02 01 01 02 02 00 80"), strangers()...) {
		b := probe.Put(0x30, body, raw(ecdsaWithSHA256), probe.Put(3, []byte{0}, near))
		if requestReader().AsShould(t, b) != checkReader().AsShould(t, b) {
			t.Errorf("%s: what Decode takes Check doesn't", what)
		} else if requestReader().Is(b) {
			taken++
		}
	}
	if taken == 0 {
		t.Error("none is taken")
	}
}

// P17.1, P17.3: lengths that are not the shortest, of each element of long ones too.
func TestLongerLengths(t *testing.T) {
	for _, f := range faces() {
		probe.LongerLengths(t, f, 70000, 20)
	}
}

// P17.1, P17.3: the bytes of each sort, read as those of each other one.
func TestOtherKinds(t *testing.T) {
	all := faces()
	for _, f := range all {
		for _, other := range all {
			probe.OtherKinds(t, f, other, 3000, 30)
		}
	}
}

// P1, P17.1, P17.3: no bytes break it: all short rows, those that look like chance, alone and in elements.
func TestOfAny(t *testing.T) {
	for _, f := range faces() {
		probe.OfAny(t, f, 1000, func(b []byte) [][]byte {
			body := probe.Put(0x30, probe.Put(2, b), probe.Put(0x30, b), probe.Put(0x30, b), probe.Put(0xa0, b))
			asked := probe.Put(0x30, raw("02 01 00 30 00"+fivesKey), probe.Put(0xa0, probe.Put(0x30, raw(asking), probe.Put(0x31, probe.Put(0x30, b)))))
			return [][]byte{
				probe.Put(0x30, b), body, asked,
				probe.Put(0x30, probe.Put(0x30, b), raw(ecdsaWithSHA256), probe.Put(3, b)),
				probe.Put(0x30, body, raw(ecdsaWithSHA256), probe.Put(3, b)),
				probe.Put(0x30, asked, raw(ecdsaWithSHA256), raw(bits)),
			}
		})
	}
}

// many are bytes of which very many are laid behind one another.
func many() [][]byte {
	return [][]byte{{5, 0}, {0x30, 0}, {0x31, 0}, raw("02 01 00"), raw(asking), raw(fivesKey), raw("a0 00"), raw("30 07 06 03 55 1d 11 04 00"), {0x30}, {0}, {0xff}, {0x30, 0x80}}
}

// P1, P17.1, P17.3: very many elements, and very long ones, are refused, and in no long time.
func TestVeryMany(t *testing.T) {
	for _, f := range faces() {
		probe.VeryMany(t, f, []byte{0x30, 0x31, 0x02, 0x03, 0xa0}, many()...)
	}
	r := bodyReader()
	for i := range parted() {
		for _, one := range many() {
			b := bytes.Repeat(one, (1<<18)/len(one))
			for _, part := range [][]byte{b, probe.Put(0x30, b), probe.Put(0xa0, b), probe.Put(0xa0, probe.Put(0x30, b)), probe.Put(0xa0, probe.Put(0x30, raw(asking), probe.Put(0x31, b)))} {
				r.None(t, "very many in a part", with(i, hex.EncodeToString(part)))
			}
		}
	}
}
