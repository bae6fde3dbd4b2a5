package probe

import (
	"bytes"
	"math/bits"
	"slices"

	"chancery/api"
)

// Sample are a face's samples up to a length: where there are very many, one of each several.
func Sample(t Test, f Face, longest, most int) [][]byte {
	t.Helper()
	var l [][]byte
	for _, b := range f.Some() {
		if len(b) <= longest {
			l = append(l, b)
		}
	}
	if len(l) == 0 {
		t.Fatalf("%s: no samples", f.Name())
	}
	step := max(1, len(l)/most)
	var out [][]byte
	for i := 0; i < len(l); i += step {
		out = append(out, l[i])
	}
	return out
}

// Taken fails unless all samples are taken.
func Taken(t Test, f Face) {
	t.Helper()
	for _, b := range f.Some() {
		if !f.AsShould(t, b) {
			t.Errorf("%s: %.600x is not taken", f.Name(), b)
		}
	}
}

// CutShort fails unless bytes are refused that are cut short, at each place, or that have more behind them; those without the first byte are read as they should be.
func CutShort(t Test, f Face, longest, most int) {
	t.Helper()
	for _, b := range Sample(t, f, longest, most) {
		for end := range b {
			f.None(t, "cut short", b[:end])
		}
		for x := range 256 {
			f.None(t, "a byte more", append(bytes.Clone(b), byte(x)))
		}
		f.None(t, "twice", slices.Concat(b, b))
		f.None(t, "two bytes more", append(bytes.Clone(b), 5, 0))
		f.AsShould(t, b[1:])
	}
}

// some fails unless of what was tried a part was taken, and a part wasn't.
func some(t Test, f Face, taken, count int) {
	t.Helper()
	if taken == 0 || taken == count {
		t.Errorf("%s: %d of %d are taken", f.Name(), taken, count)
	}
}

// instead are the bytes that may stand in a byte's place: all of them, or those that are one bit away.
func instead(was byte, all bool) []byte {
	var l []byte
	for x := range 256 {
		if all || bits.OnesCount8(was^byte(x)) == 1 {
			l = append(l, byte(x))
		}
	}
	return l
}

// OneByte fails unless bytes of which one is another one, at each place, are read as they should be; those with one more, and with one fewer, too.
func OneByte(t Test, f Face, longest, most int) {
	t.Helper()
	taken, count := 0, 0
	for i, sample := range Sample(t, f, longest, most) {
		b := bytes.Clone(sample)
		for at, was := range sample {
			for _, x := range instead(was, i == 0 || len(b) <= 60) {
				b[at] = x
				if count++; f.AsShould(t, b) {
					taken++
				}
			}
			b[at] = was
			f.AsShould(t, slices.Delete(bytes.Clone(b), at, at+1))
			for _, x := range []byte{0, 1, was, 0x30, 0x80, 0xff} {
				f.AsShould(t, slices.Insert(bytes.Clone(b), at, x))
			}
		}
	}
	some(t, f, taken, count)
}

// OneElement fails unless bytes of which one element is changed, in each way that Altered has, are read as they should be.
func OneElement(t Test, f Face, longest, most int, strangers ...string) {
	t.Helper()
	taken, count := 0, 0
	for _, b := range Sample(t, f, longest, most) {
		for what, near := range Altered(b, strangers...) {
			count++
			if f.AsShould(t, near) {
				taken++
			} else if bytes.Equal(near, b) {
				t.Fatalf("%s: %x, %s, is not taken", f.Name(), b, what)
			}
		}
	}
	some(t, f, taken, count)
}

// LongerLengths fails unless bytes of which one length is not the shortest are refused, but where they are within what may be anything.
func LongerLengths(t Test, f Face, longest, most int) {
	t.Helper()
	for _, b := range Sample(t, f, longest, most) {
		for i := range Tree(b).All() {
			for _, long := range []int{1, 2, 3, -1} {
				root := Tree(b)
				root.All()[i].Long = long
				near := root.Inner()
				if f.Is(near) {
					f.AsShould(t, near)
					continue
				}
				f.None(t, "a length not the shortest", near)
			}
		}
	}
}

// OtherKinds fails unless another face's bytes are read as they should be.
func OtherKinds(t Test, f, other Face, longest, most int) {
	t.Helper()
	for _, b := range Sample(t, other, longest, most) {
		f.AsShould(t, b)
		f.AsShould(t, Put(0x30, b))
		f.AsShould(t, Put(0x04, b))
		f.AsShould(t, Tree(b).Parts[0].Inner())
	}
}

// OfAny fails unless all short rows, and bytes that look like chance, alone and in elements, are read as they should be.
func OfAny(t Test, f Face, count int, elements func(b []byte) [][]byte) {
	t.Helper()
	for b := range Short([]byte{0x00, 0x01, 0x02, 0x04, 0x30, 0x80, 0xa0, 0xff}, 4) {
		f.AsShould(t, b)
	}
	var draws Draws
	for i := range count {
		b := draws.Bytes(i % 90)
		f.AsShould(t, b)
		for _, x := range elements(b) {
			f.AsShould(t, x)
		}
	}
}

// VeryMany fails unless very many of each of these, alone and in elements of these tags, are refused; very deep elements, and those that are too long, too.
func VeryMany(t Test, f Face, tags []byte, rows ...[]byte) {
	t.Helper()
	const size = 1 << 17
	for _, one := range rows {
		b := bytes.Repeat(one, size/len(one))
		f.None(t, "very many", b)
		for _, tag := range tags {
			x := Put(tag, b)
			f.None(t, "very many in one", x)
			f.None(t, "very many in two", Put(0x30, x))
			f.None(t, "very many in two, twice", Put(0x30, x, x))
			f.None(t, "very many in three", Put(0x30, Put(0x30, x)))
			f.None(t, "very many in three, otherwise", Put(0x30, Put(0xa0, x)))
		}
	}
	deep := []byte{}
	for range 2000 {
		deep = Put(0x30, deep)
	}
	f.None(t, "very deep", deep)
	f.None(t, "too long for an element", make([]byte, api.MaxContent+10))
}
