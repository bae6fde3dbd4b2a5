package text_test

import (
	"strings"
	"testing"
	"unicode/utf8"

	"chancery/probe"
	"chancery/text"
)

// form writes a number as a character of n bytes, whether it may be written so or not.
func form(r, n int) string {
	if n == 1 {
		return string([]byte{byte(r)})
	}
	b := make([]byte, n)
	for i := n - 1; i > 0; i-- {
		b[i] = byte(0x80 | r&0x3f)
		r >>= 6
	}
	b[0] = byte(0xff<<(8-n) | r)
	return string(b)
}

// valid fails unless Valid of s is that.
func valid(t *testing.T, s string, want int) {
	t.Helper()
	if n := text.Valid(s); n != want {
		t.Errorf("Valid(% x): %d; want %d", s, n, want)
	}
}

// edges: the first and the last character of each length, and those around what is none, with the bytes of each.
var edges = []struct {
	r int
	s string
}{
	{0, "\x00"}, {0x7f, "\x7f"}, {0x80, "\xc2\x80"}, {0x7ff, "\xdf\xbf"}, {0x800, "\xe0\xa0\x80"}, {0xfff, "\xe0\xbf\xbf"},
	{0x1000, "\xe1\x80\x80"}, {0xcfff, "\xec\xbf\xbf"}, {0xd000, "\xed\x80\x80"}, {0xd7ff, "\xed\x9f\xbf"}, {0xe000, "\xee\x80\x80"},
	{0xfeff, "\xef\xbb\xbf"}, {0xfffd, "\xef\xbf\xbd"}, {0xfffe, "\xef\xbf\xbe"}, {0xffff, "\xef\xbf\xbf"}, {0x10000, "\xf0\x90\x80\x80"},
	{0x3ffff, "\xf0\xbf\xbf\xbf"}, {0x40000, "\xf1\x80\x80\x80"}, {0xfffff, "\xf3\xbf\xbf\xbf"}, {0x100000, "\xf4\x80\x80\x80"}, {0x10ffff, "\xf4\x8f\xbf\xbf"},
}

// none: bytes that begin no character.
var none = []string{
	"\x80", "\xbf", "\xc0", "\xc1", "\xf5", "\xf8", "\xfc", "\xfe", "\xff",
	"\xc0\x80", "\xc0\xaf", "\xc1\xbf", "\xe0\x80\x80", "\xe0\x9f\xbf", "\xf0\x80\x80\x80", "\xf0\x8f\xbf\xbf", // longer than the shortest
	"\xed\xa0\x80", "\xed\xaf\xbf", "\xed\xb0\x80", "\xed\xbf\xbf", // D800, DBFF, DC00, DFFF
	"\xf4\x90\x80\x80", "\xf4\xbf\xbf\xbf", "\xf5\x80\x80\x80", "\xf7\xbf\xbf\xbf", // 110000 and beyond
	"\xf8\x88\x80\x80\x80", "\xfb\xbf\xbf\xbf\xbf", "\xfc\x84\x80\x80\x80\x80", "\xfd\xbf\xbf\xbf\xbf\xbf", // forms of 5 and 6 bytes
	"\xf8\x80\x80\x80\x80", "\xfc\x80\x80\x80\x80\x80",
	"\xe2\x82", "\xef\xbf", "\xf0\x9f\x98", // cut short
}

// P5.1
func TestValid(t *testing.T) {
	valid(t, "", 0)
	valid(t, "abc", 3)
	valid(t, "a\xff", 1)
	valid(t, "na\u00efve \u20ac \U0001f600", 15)
	valid(t, "\ufffd", 3)
	valid(t, "\ufffdx", 4)
	valid(t, "\ufffd\xef\xbf", 3)
	valid(t, "\xef\xbf\ufffd", 0)
	for _, c := range edges {
		if form(c.r, len(c.s)) != c.s {
			t.Fatalf("%x: % x", c.r, c.s)
		}
		valid(t, c.s, len(c.s))
		valid(t, "a"+c.s+"z", len(c.s)+2)
		valid(t, c.s+c.s, 2*len(c.s))
	}
}

// P5.1: what begins none, at the start, in the middle and at the end, whatever stands around it.
func TestValidNone(t *testing.T) {
	for _, s := range none {
		for _, ahead := range []string{"", "a", "abc", "\x00", "\u00e9", "\u20ac", "\ufffd", "\U0001f600", " \u00e9"} {
			for _, behind := range []string{"", "a", "\x00", " b", "\u00e9", "\ufffd", "\xff", "\xc3"} {
				valid(t, ahead+s+behind, len(ahead))
			}
		}
	}
}

// P5.1: each byte alone, and behind others.
func TestValidEachByte(t *testing.T) {
	for x := range 256 {
		s := string([]byte{byte(x)})
		for _, ahead := range []string{"", "z", "\u20ac"} {
			if x < 128 {
				valid(t, ahead+s, len(ahead)+1)
				valid(t, ahead+s+"\x80", len(ahead)+1) // a byte that goes on, where none is gone on with
			} else {
				valid(t, ahead+s, len(ahead))
				valid(t, ahead+s+"a", len(ahead))
			}
		}
	}
}

// P5.1: each of the characters cut short, at the end and with others behind it.
func TestValidCut(t *testing.T) {
	for _, c := range edges {
		for cut := 1; cut < len(c.s); cut++ {
			for _, ahead := range []string{"", "a", c.s} {
				valid(t, ahead+c.s[:cut], len(ahead))
				valid(t, ahead+c.s[:cut]+"a", len(ahead))
				valid(t, ahead+c.s[:cut]+c.s, len(ahead))
				valid(t, ahead+c.s[cut:], len(ahead)) // without its beginning
				valid(t, ahead+c.s[:cut]+"\xff"+c.s[cut:], len(ahead))
			}
		}
	}
}

// P5.1: all numbers in all forms of up to four bytes: just the shortest form is a character, of just those that are characters.
func TestValidAllForms(t *testing.T) {
	for n, most := range map[int]int{1: 0x7f, 2: 0x7ff, 3: 0xffff, 4: 0x1fffff} {
		least := map[int]int{1: 0, 2: 0x80, 3: 0x800, 4: 0x10000}[n]
		for r := 0; r <= most; r++ {
			want := 0
			if r >= least && r <= 0x10ffff && (r < 0xd800 || r > 0xdfff) {
				want = n
			}
			if got := text.Valid(form(r, n)); got != want {
				t.Fatalf("Valid(% x), which is %x: %d; want %d", form(r, n), r, got, want)
			}
		}
	}
}

// first finds the place by the library, one character at a time.
func first(s string) int {
	at := 0
	for at < len(s) {
		r, n := utf8.DecodeRuneInString(s[at:])
		if r == utf8.RuneError && n < 2 {
			break
		}
		at += n
	}
	return at
}

// P5.1: all short rows of the bytes at which something changes.
func TestValidOtherWay(t *testing.T) {
	for b := range probe.Short([]byte("a\x80\x8f\x90\x9f\xa0\xbd\xbf\xc1\xc2\xdf\xe0\xed\xef\xf0\xf4\xf5"), 5) {
		s := string(b)
		if n := text.Valid(s); n != first(s) {
			t.Fatalf("Valid(% x): %d; want %d", s, n, first(s))
		}
	}
}

// P5.1: of any length.
func TestValidLong(t *testing.T) {
	for _, c := range []string{"a", "\u00e9", "\u20ac", "\ufffd", "\U0001f600"} {
		s := strings.Repeat(c, 100000)
		valid(t, s, len(s))
		if n := text.Valid(s + "\xff" + s); n != len(s) {
			t.Errorf("a fault behind %d bytes: %d", len(s), n)
		}
		if n := text.Valid(s + c[:len(c)-1] + "\xff"); n != len(s) {
			t.Errorf("a fault in the last character behind %d bytes: %d", len(s), n)
		}
	}
}
