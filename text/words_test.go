package text_test

import (
	"bytes"
	"slices"
	"strings"
	"testing"

	"chancery/probe"
	"chancery/text"
)

// P5.4
func TestWords(t *testing.T) {
	for _, k := range known {
		if l := slices.Collect(text.Words(k.s)); !slices.Equal(l, k.words) {
			t.Errorf("Words(%q): %q; want %q", k.s, l, k.words)
		}
	}
}

// P5.4: each byte but the blank is part of a word.
func TestWordsEachByte(t *testing.T) {
	for x := range 256 {
		s := string([]byte{byte(x)})
		alone, between := []string{s}, []string{"a" + s + "b"}
		if x == 32 {
			alone, between = nil, []string{"a", "b"}
		}
		if l := slices.Collect(text.Words(s)); !slices.Equal(l, alone) {
			t.Errorf("Words(%q): %q", s, l)
		}
		if l := slices.Collect(text.Words("a" + s + "b")); !slices.Equal(l, between) {
			t.Errorf("Words(a, %q, b): %q", s, l)
		}
	}
}

// P5.4: all short rows of some bytes, by the library.
func TestWordsOtherWay(t *testing.T) {
	for b := range probe.Short([]byte(" a\n\xc3\xa0\xe2"), 6) {
		var want []string
		for _, w := range bytes.FieldsFunc(b, func(r rune) bool { return r == 32 }) {
			want = append(want, string(w))
		}
		if l := slices.Collect(text.Words(string(b))); !slices.Equal(l, want) {
			t.Fatalf("Words(%q): %q; want %q", b, l, want)
		}
	}
}

// P5.4, P2: a walk may be left at each word, also at the last one, and made again, also within itself.
func TestWordsAgain(t *testing.T) {
	for _, k := range known {
		words := text.Words(k.s)
		for stop := range k.words {
			var l []string
			for w := range words {
				l = append(l, w)
				if len(l) == stop+1 {
					break
				}
			}
			if !slices.Equal(l, k.words[:stop+1]) {
				t.Errorf("Words(%q), left at the word %d: %q", k.s, stop, l)
			}
		}
		for range 2 {
			count := 0
			for w := range words {
				if inner := slices.Collect(words); !slices.Equal(inner, k.words) || w != k.words[count] {
					t.Errorf("Words(%q), gone over within itself: %q at %q", k.s, inner, w)
				}
				count++
			}
			if count != len(k.words) {
				t.Errorf("Words(%q), again: %d words", k.s, count)
			}
		}
	}
}

// P5.4: when a walk is left nothing more is asked of it.
func TestWordsLeft(t *testing.T) {
	for _, s := range []string{"a b c", "a", "a ", " a b"} {
		asked := 0
		text.Words(s)(func(string) bool {
			asked++
			return false
		})
		if asked != 1 {
			t.Errorf("Words(%q), left: asked %d times", s, asked)
		}
	}
	asked := 0
	text.Words("   ")(func(string) bool {
		asked++
		return true
	})
	if asked != 0 {
		t.Errorf("no words: asked %d times", asked)
	}
}

// P5.4: of any length.
func TestWordsLong(t *testing.T) {
	count := 0
	for w := range text.Words(strings.Repeat("  ab", 100000)) {
		if w != "ab" {
			t.Fatalf("%q", w)
		}
		count++
	}
	if count != 100000 {
		t.Error(count)
	}
	long := strings.Repeat("\xffa", 1<<20)
	if l := slices.Collect(text.Words(" " + long + " ")); !slices.Equal(l, []string{long}) {
		t.Error("a long word")
	}
}
