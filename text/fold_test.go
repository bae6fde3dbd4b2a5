package text_test

import (
	"bytes"
	"slices"
	"strings"
	"testing"

	"chancery/probe"
	"chancery/text"
)

// known: texts with their words, and as they are compared.
var known = []struct {
	s     string
	words []string
	fold  string
}{
	{"", nil, ""},
	{" ", nil, ""},
	{"     ", nil, ""},
	{"a", []string{"a"}, "a"},
	{"A", []string{"A"}, "a"},
	{" a", []string{"a"}, "a"},
	{"a ", []string{"a"}, "a"},
	{"  A  ", []string{"A"}, "a"},
	{" a  bc d", []string{"a", "bc", "d"}, "a bc d"},
	{"  A   bC ", []string{"A", "bC"}, "a bc"},
	{"one two three", []string{"one", "two", "three"}, "one two three"},
	{"One  TWO       thREE", []string{"One", "TWO", "thREE"}, "one two three"},
	{"AZaz", []string{"AZaz"}, "azaz"},
	{"@A[ Z `z{", []string{"@A[", "Z", "`z{"}, "@a[ z `z{"}, // the bytes beside the letters
	{"O'BRIEN (X) 09", []string{"O'BRIEN", "(X)", "09"}, "o'brien (x) 09"},
	{"a\tB", []string{"a\tB"}, "a\tb"},
	{"\t a \n b \r\n", []string{"\t", "a", "\n", "b", "\r\n"}, "\t a \n b \r\n"},
	{"\v\f", []string{"\v\f"}, "\v\f"},
	{"\x00 \x00\x00", []string{"\x00", "\x00\x00"}, "\x00 \x00\x00"},
	{"A\u00a0B", []string{"A\u00a0B"}, "a\u00a0b"}, // blanks of other kinds are none
	{"\u2003A\u3000 \u0085", []string{"\u2003A\u3000", "\u0085"}, "\u2003a\u3000 \u0085"},
	{"\u00c9T\u00c9 \u00c0", []string{"\u00c9T\u00c9", "\u00c0"}, "\u00c9t\u00c9 \u00c0"}, // letters beyond Z stay
	{"\u0130\u212a\u017f\u0391\u0410\uff21", []string{"\u0130\u212a\u017f\u0391\u0410\uff21"}, "\u0130\u212a\u017f\u0391\u0410\uff21"},
	{"\U00010400 X", []string{"\U00010400", "X"}, "\U00010400 x"},
	{"\ufffd \ufffdA", []string{"\ufffd", "\ufffdA"}, "\ufffd \ufffda"},
	{"\xff", []string{"\xff"}, "\xff"},
	{" \xff  \xc3 A\xc3B", []string{"\xff", "\xc3", "A\xc3B"}, "\xff \xc3 a\xc3b"},
	{"\xe2\x82 \xac", []string{"\xe2\x82", "\xac"}, "\xe2\x82 \xac"},
	{"\xf0 \x9f  \x98 \x80 ", []string{"\xf0", "\x9f", "\x98", "\x80"}, "\xf0 \x9f \x98 \x80"},
	{"\xc1\xa1\xc1\x81", []string{"\xc1\xa1\xc1\x81"}, "\xc1\xa1\xc1\x81"}, // a and A in a form that is too long: no letters
	{"\xc0\xa0", []string{"\xc0\xa0"}, "\xc0\xa0"},                         // a blank in such a form: none
	{"\xe1A\xda", []string{"\xe1A\xda"}, "\xe1a\xda"},
}

// P5.3
func TestFold(t *testing.T) {
	for _, k := range known {
		if s := text.Fold(k.s); s != k.fold {
			t.Errorf("Fold(%q): %q; want %q", k.s, s, k.fold)
		}
	}
}

// P5.3: each byte, alone and between letters.
func TestFoldEachByte(t *testing.T) {
	for x := range 256 {
		s := string([]byte{byte(x)})
		low := s
		if x >= 'A' && x <= 'Z' {
			low = string([]byte{byte(x + 32)})
		}
		alone, between, doubled := low, "q"+low+"q", low+" "+low
		if x == ' ' {
			alone, between, doubled = "", "q q", ""
		}
		if text.Fold(s) != alone || text.Fold("Q"+s+"Q") != between || text.Fold(s+" "+s) != doubled {
			t.Errorf("the byte %d: %q, %q, %q", x, text.Fold(s), text.Fold("Q"+s+"Q"), text.Fold(s+" "+s))
		}
	}
}

// folded is Fold by the library.
func folded(b []byte) string {
	var words []string
	for _, w := range bytes.Split(b, []byte{32}) {
		if len(w) == 0 {
			continue
		}
		low := slices.Clone(w)
		for i, x := range low {
			if strings.IndexByte("ABCDEFGHIJKLMNOPQRSTUVWXYZ", x) >= 0 {
				low[i] = x | 0x20
			}
		}
		words = append(words, string(low))
	}
	return strings.Join(words, " ")
}

// P5.3: all short rows of some bytes.
func TestFoldOtherWay(t *testing.T) {
	for b := range probe.Short([]byte(" Aaz\t\xc3\x89"), 6) {
		if s := text.Fold(string(b)); s != folded(b) {
			t.Fatalf("Fold(%q): %q; want %q", b, s, folded(b))
		}
	}
}

// P5.3
func TestSame(t *testing.T) {
	for _, c := range []struct {
		a, b string
		want bool
	}{
		{"A b", "a  B", true}, {"a", "ab", false}, {"", "", true}, {"", "   ", true}, {" ", "  ", true}, {"", "a", false}, {" ", "\t", false},
		{"Example Org", " EXAMPLE   org ", true}, {"a b", "ab", false}, {"a b", "a\tb", false}, {"ab", "ba", false}, {"a b", "b a", false},
		{"\u00c9", "\u00e9", false}, {"\u00e9", "\u00e9 ", true}, {"e\u0301", "\u00e9", false}, {"\xff", " \xff", true}, {"\xff", "\xfe", false}, {"\xff", "\ufffd", false},
		{"@", "`", false}, {"[", "{", false}, {"K", "\u212a", false}, {"s", "\u017f", false}, {"\x00", "", false}, {"a\x00", "a", false}, {"a", "A", true}, {"z", "Z", true},
	} {
		if text.Same(c.a, c.b) != c.want || text.Same(c.b, c.a) != c.want {
			t.Errorf("Same(%q, %q): %t, %t", c.a, c.b, text.Same(c.a, c.b), text.Same(c.b, c.a))
		}
	}
	for _, k := range known {
		for _, l := range known {
			if text.Same(k.s, l.s) != (k.fold == l.fold) {
				t.Errorf("Same(%q, %q): %t", k.s, l.s, text.Same(k.s, l.s))
			}
		}
	}
}

// P5.3: of any length.
func TestFoldLong(t *testing.T) {
	many := strings.Repeat("  Ab\xff", 100000)
	want := strings.Repeat(" ab\xff", 100000)[1:]
	if text.Fold(many) != want || !text.Same(many, want) || text.Same(many, want[1:]) {
		t.Error("many words")
	}
	if text.Fold(strings.Repeat("X", 1<<20)) != strings.Repeat("x", 1<<20) {
		t.Error("a long word")
	}
	if text.Fold(strings.Repeat(" ", 1<<20)) != "" || text.Fold(strings.Repeat(" ", 1<<20)+"X") != "x" {
		t.Error("many blanks")
	}
}
