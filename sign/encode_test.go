package sign_test

import (
	"bytes"
	"encoding/asn1"
	"math/big"
	"slices"
	"testing"

	"chancery/api"
	"chancery/der"
	"chancery/probe"
	"chancery/sign"
)

// encodings are signatures with their bytes, written out.
var encodings = []struct{ r, s, bytes string }{
	{"", "", "30 06 02 01 00 02 01 00"},
	{"01", "80", "30 07 02 01 01 02 02 00 80"},
	{"01", "01", "30 06 02 01 01 02 01 01"},
	{"", "01", "30 06 02 01 00 02 01 01"},
	{"01", "", "30 06 02 01 01 02 01 00"},
	{"7f", "0100", "30 07 02 01 7f 02 02 01 00"},
	{"80", "7f", "30 07 02 02 00 80 02 01 7f"},
	{"ff", "8000", "30 09 02 02 00 ff 02 03 00 80 00"},
	{
		"ffffffff00000000ffffffffffffffffbce6faada7179e84f3b9cac2fc632550", "01",
		"30 26 02 21 00 ffffffff00000000ffffffffffffffffbce6faada7179e84f3b9cac2fc632550 02 01 01",
	},
	{
		"01", "ffffffff00000000ffffffffffffffffbce6faada7179e84f3b9cac2fc632551",
		"30 26 02 01 01 02 21 00 ffffffff00000000ffffffffffffffffbce6faada7179e84f3b9cac2fc632551",
	},
	{
		"7fffffffffffffffffffffffffffffffffffffffffffffffffffffffffffffff", "00ffffffffffffffffffffffffffffffffffffffffffffffffffffffffffffff",
		"30 44 02 20 7fffffffffffffffffffffffffffffffffffffffffffffffffffffffffffffff 02 20 00ffffffffffffffffffffffffffffffffffffffffffffffffffffffffffffff",
	},
	{
		"ffffffffffffffffffffffffffffffffffffffffffffffffffffffffffffffff", "ffffffffffffffffffffffffffffffffffffffffffffffffffffffffffffffff",
		"30 46 02 21 00 ffffffffffffffffffffffffffffffffffffffffffffffffffffffffffffffff 02 21 00 ffffffffffffffffffffffffffffffffffffffffffffffffffffffffffffffff",
	},
	{
		"efd48b2aacb6a8fd1140dd9cd45e81d69d2c877b56aaf991c34d0ea84eaf3716", "019f4113742a2b14bd25926b49c649155f267e60d3814b4c0cc84250e46f0083",
		"30 45 02 21 00 efd48b2aacb6a8fd1140dd9cd45e81d69d2c877b56aaf991c34d0ea84eaf3716 02 20 019f4113742a2b14bd25926b49c649155f267e60d3814b4c0cc84250e46f0083",
	},
}

// wide are numbers of R and S at which their bytes change.
func wide() []api.Digest {
	l := append(digests(), noKeys()...)
	for i := range 32 {
		for _, first := range []byte{1, 0x7f, 0x80, 0xff} {
			var low api.Digest
			low[i] = first
			high := digest(allOnes)
			copy(high[:], low[:i+1])
			l = append(l, low, high)
		}
	}
	return l
}

// libraryBytes are a signature's, by the library.
func libraryBytes(t *testing.T, n numbers) []byte {
	t.Helper()
	b, err := asn1.Marshal(n)
	if err != nil {
		t.Fatal(err)
	}
	return b
}

// P11.5: signatures and bytes that are written out.
func TestEncodings(t *testing.T) {
	for _, c := range encodings {
		want := api.Signature{R: hexed(c.r), S: hexed(c.s)}
		if b := sign.Encode(want); !bytes.Equal(b, probe.Raw(c.bytes)) {
			t.Errorf("Encode(%s): %x; want %s", show(want), b, c.bytes)
		}
		s, e := sign.Decode(probe.Raw(c.bytes))
		is(t, c.bytes, s, e, want)
	}
}

// P11.5: each signature's bytes are those of the library, and are read as it, though no point takes such numbers.
func TestEncodeByLibrary(t *testing.T) {
	for i, r := range wide() {
		for j, d := range wide() {
			if (i+j)%5 != 0 {
				continue
			}
			s := api.Signature{R: r, S: d}
			want := libraryBytes(t, numbers{value(r), value(d)})
			if b := sign.Encode(s); !bytes.Equal(b, want) {
				t.Fatalf("Encode(%s): %x; want %x", show(s), b, want)
			}
			got, e := sign.Decode(want)
			is(t, "Decode", got, e, s)
		}
	}
}

// refusesAll fails unless Decode answers this error, and else nothing, of all of these.
func refusesAll(t *testing.T, want api.Errno, what string, l ...string) {
	t.Helper()
	for _, digits := range l {
		s, e := sign.Decode(probe.Raw(digits))
		refuses(t, what+": "+digits, s, e, want)
	}
}

// P11.5: first of all it is der.One's error.
func TestDecodeWhole(t *testing.T) {
	s, e := sign.Decode(nil)
	refuses(t, "nil", s, e, api.ErrShort)
	refusesAll(t, api.ErrShort, "ends too soon", "", "30", "30 06", "30 81", "30 06 02 01 01 02 01", "31 06", "30 07 02 01 01 02 01 01")
	refusesAll(t, api.ErrRest, "bytes behind it", "30 06 02 01 01 02 01 01 00", "30 06 02 01 01 02 01 80 30", "31 00 00", "30 00 30 00", "30 06 02 01 01 02 01 01 30 06 02 01 01 02 01 01")
	refusesAll(t, api.ErrTag, "no tag", "1f 06 02 01 01 02 01 01", "3f 06 02 01 01 02 01 01", "ff", "1f 00 00")
	refusesAll(t, api.ErrLength, "no length", "30 80 02 01 01 02 01 01 00 00", "30 81 06 02 01 01 02 01 01", "30 82 00 06 02 01 01 02 01 01", "30 ff", "31 81 01 00")
}

// P11.5: then ErrForm, unless the tag is 30.
func TestDecodeOtherTag(t *testing.T) {
	for tag := range 256 {
		for _, content := range []string{"06 02 01 01 02 01 01", "00", "01 02", "03 02 01 01", "06 02 01 80 02 01 80"} {
			b := append([]byte{byte(tag)}, probe.Raw(content)...)
			want := api.ErrForm
			if _, e := der.One(b); e != api.OK {
				want = e
			}
			if tag != 0x30 {
				s, e := sign.Decode(b)
				refuses(t, "another tag", s, e, want)
			}
		}
	}
	refusesAll(t, api.ErrForm, "another tag", "31 06 02 01 01 02 01 01", "10 06 02 01 01 02 01 01", "70 06 02 01 01 02 01 01", "a0 06 02 01 01 02 01 01", "02 01 01", "31 01 02", "04 00")
}

// P11.5: then der.All's error of the content.
func TestDecodeContent(t *testing.T) {
	refusesAll(t, api.ErrShort, "ends too soon", "30 01 02", "30 02 02 01", "30 04 02 01 01 02", "30 05 02 01 01 02 01", "30 06 02 01 01 02 02 01", "30 06 02 02 01 01 02 01", "30 07 02 01 80 02 01 80 02", "30 04 04 01 01 02")
	refusesAll(t, api.ErrTag, "no tag", "30 06 1f 01 01 02 01 01", "30 06 02 01 01 bf 01 01", "30 07 02 01 01 02 01 01 1f", "30 07 02 01 80 02 01 80 ff")
	refusesAll(t, api.ErrLength, "no length", "30 07 02 81 01 01 02 01 01", "30 07 02 01 01 02 81 01 01", "30 08 02 01 01 02 80 01 00 00", "30 08 02 01 01 02 01 01 02 80", "30 07 04 81 01 01 02 01 01")
}

// P11.5: then ErrForm, unless it is two elements of the tag 02.
func TestDecodeElements(t *testing.T) {
	refusesAll(t, api.ErrForm, "another count", "30 00", "30 03 02 01 01", "30 09 02 01 01 02 01 01 02 01 01", "30 0c 02 01 01 02 01 01 02 01 01 02 01 01", "30 02 30 00", "30 03 02 01 80", "30 09 02 01 80 02 01 80 02 01 80", "30 08 30 06 02 01 01 02 01 01")
	one, negative := []byte{2, 1, 1}, []byte{2, 1, 0x80}
	for tag := range 256 {
		for _, content := range [][]byte{{1, 1}, {1, 0x80}, {0}} {
			element := append([]byte{byte(tag)}, content...)
			if tag == 2 {
				continue
			}
			for _, l := range [][][]byte{{element, one}, {one, element}, {element, element}, {negative, element}, {element, negative}} {
				inner := slices.Concat(l...)
				_, _, want := der.All(inner)
				if want == api.OK {
					want = api.ErrForm
				}
				s, e := sign.Decode(append([]byte{0x30, byte(len(inner))}, inner...))
				refuses(t, "another tag", s, e, want)
			}
		}
	}
	refusesAll(t, api.ErrForm, "another tag", "30 06 03 01 01 02 01 01", "30 06 02 01 01 03 01 01", "30 06 02 01 80 0a 01 01", "30 06 22 01 01 02 01 01", "30 06 02 01 01 82 01 01")
}

// badIntegers are contents of integers that are wrong, with what is wrong with them.
func badIntegers() map[string]api.Errno {
	l := map[string]api.Errno{
		"": api.ErrForm, "\x00\x01": api.ErrForm, "\x00\x00": api.ErrForm, "\x00\x7f\x01": api.ErrForm, "\xff\x80": api.ErrForm, "\xff\xff": api.ErrForm,
		"\x80": api.ErrSign, "\xff": api.ErrSign, "\x80\x00": api.ErrSign, "\xff\x7f": api.ErrSign,
	}
	for _, n := range []int{33, 34, 35, 64, 127, 128, 255, 256, 70000} {
		l["\x01"+string(make([]byte, n-1))] = api.ErrBig
		l["\x7f"+string(bytes.Repeat([]byte{0xff}, n-1))] = api.ErrBig
		l["\x00\x80"+string(make([]byte, n-1))] = api.ErrBig
		l["\x80"+string(make([]byte, n-1))] = api.ErrSign
		l["\x00\x01"+string(make([]byte, n-1))] = api.ErrForm
	}
	l["\x00\x01"+string(make([]byte, 31))] = api.ErrForm
	l["\x80"+string(make([]byte, 31))] = api.ErrSign
	return l
}

// ofTwo is the element 30 with two integers of such contents.
func ofTwo(t *testing.T, r, s string) []byte {
	t.Helper()
	var b []byte
	for _, content := range []string{r, s} {
		var e api.Errno
		if b, e = der.Put(b, 2, []byte(content)); e != api.OK {
			t.Fatal(e)
		}
	}
	b, e := der.Put(nil, 0x30, b)
	if e != api.OK {
		t.Fatal(e)
	}
	return b
}

// P11.5: then what is wrong with R, and only then with S.
func TestDecodeIntegers(t *testing.T) {
	bad := badIntegers()
	good := []string{"\x00", "\x01", "\x00\x80", "\x00" + string(bytes.Repeat([]byte{0xff}, 32)), "\x7f" + string(make([]byte, 31))}
	for content, want := range bad {
		for _, other := range good {
			s, e := sign.Decode(ofTwo(t, content, other))
			refuses(t, "R wrong", s, e, want)
			s, e = sign.Decode(ofTwo(t, other, content))
			refuses(t, "S wrong", s, e, want)
		}
		for other := range bad {
			s, e := sign.Decode(ofTwo(t, content, other))
			refuses(t, "both wrong", s, e, want)
		}
	}
	refusesAll(t, api.ErrSign, "negative", "30 06 02 01 01 02 01 80", "30 06 02 01 80 02 01 01")
}

// P11.5: bytes that end too soon, at each place.
func TestDecodeCut(t *testing.T) {
	for _, c := range encodings {
		b := probe.Raw(c.bytes)
		for n := range b {
			s, e := sign.Decode(b[:n])
			refuses(t, "cut", s, e, api.ErrShort)
		}
		content := b[2:]
		for n := range content {
			want := api.ErrShort
			if first := 2 + int(content[1]); n == 0 || n == first {
				want = api.ErrForm
			}
			s, e := sign.Decode(append([]byte{0x30, byte(n)}, content[:n]...))
			refuses(t, "cut within", s, e, want)
		}
		s, e := sign.Decode(append(b, 0))
		refuses(t, "bytes behind", s, e, api.ErrRest)
	}
}

// libraryTakes tells what the library reads of bytes, if they are the ones that it writes of that, and its numbers have no sign and at most 32 bytes.
func libraryTakes(t *testing.T, b []byte) (api.Signature, bool) {
	t.Helper()
	var n numbers
	if rest, err := asn1.Unmarshal(b, &n); err != nil || len(rest) > 0 || !bytes.Equal(libraryBytes(t, n), b) {
		return api.Signature{}, false
	}
	for _, x := range []*big.Int{n.R, n.S} {
		if x.Sign() < 0 || x.Cmp(allOnes) > 0 {
			return api.Signature{}, false
		}
	}
	return api.Signature{R: digest(n.R), S: digest(n.S)}, true
}

// alike fails unless Decode takes bytes just if the library does, as the same.
func alike(t *testing.T, b []byte) {
	t.Helper()
	s, e := sign.Decode(b)
	want, ok := libraryTakes(t, b)
	if ok != (e == api.OK) || s != want {
		t.Fatalf("Decode(%x): %s, error %d; the library: %s, %t", b, show(s), e, show(want), ok)
	}
	if ok && !bytes.Equal(sign.Encode(s), b) {
		t.Fatalf("Encode(%s): %x; want %x", show(s), sign.Encode(s), b)
	}
}

// P11.5, P11.6: all contents of few bytes, each in the element 30: what is taken is what the library takes, and what Encode tells of it.
func TestDecodeOfShort(t *testing.T) {
	taken := 0
	for content := range probe.Short([]byte{0, 1, 2, 0x7f, 0x80, 0x81}, 7) {
		b := append([]byte{0x30, byte(len(content))}, content...)
		alike(t, b)
		if _, e := sign.Decode(b); e == api.OK {
			taken++
		}
	}
	if taken == 0 {
		t.Error("nothing is taken")
	}
}

// P11.5, P11.6: what was encoded, with one byte another one.
func TestDecodeTurned(t *testing.T) {
	for _, c := range encodings {
		b := probe.Raw(c.bytes)
		for i, was := range b {
			for x := range 256 {
				b[i] = byte(x)
				alike(t, b)
			}
			b[i] = was
		}
	}
}
