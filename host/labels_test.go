package host_test

import (
	"iter"
	"slices"
	"strings"
	"testing"

	"chancery/host"
	"chancery/probe"
)

// cut are texts with their pieces, written out.
var cut = []struct {
	s    string
	want []string
}{
	{"", []string{""}},
	{".", []string{"", ""}},
	{"..", []string{"", "", ""}},
	{"...", []string{"", "", "", ""}},
	{"a", []string{"a"}},
	{"abc", []string{"abc"}},
	{"a.", []string{"a", ""}},
	{".a", []string{"", "a"}},
	{".a.", []string{"", "a", ""}},
	{"a.b", []string{"a", "b"}},
	{"a..b", []string{"a", "", "b"}},
	{"a...b", []string{"a", "", "", "b"}},
	{"..a", []string{"", "", "a"}},
	{"a..", []string{"a", "", ""}},
	{"www.Example.com", []string{"www", "Example", "com"}},
	{"*.a.b", []string{"*", "a", "b"}},
	{"1.2.3.4", []string{"1", "2", "3", "4"}},
	{"a.b@c.d", []string{"a", "b@c", "d"}},
	{" . ", []string{" ", " "}},
	{"-.-a", []string{"-", "-a"}},
	{"\x00.\x00\n", []string{"\x00", "\x00\n"}},
	{"\xff.\xfe", []string{"\xff", "\xfe"}},
	{"\xae.\xae", []string{"\xae", "\xae"}},
	{"\xe2\x82.\xac", []string{"\xe2\x82", "\xac"}},
	{`a\.b`, []string{`a\`, "b"}},
	{"a\u3002b\uff0ec\uff61d,e", []string{"a\u3002b\uff0ec\uff61d,e"}}, // other dots are none
}

// P13.2
func TestLabels(t *testing.T) {
	for _, c := range cut {
		if got := slices.Collect(host.Labels(c.s)); !slices.Equal(got, c.want) {
			t.Errorf("Labels(%q): %q; want %q", c.s, got, c.want)
		}
	}
}

// P13.2: all short texts, and each byte, by the library; with dots between the pieces are the text.
func TestLabelsOfFew(t *testing.T) {
	asLibrary := func(s string) {
		t.Helper()
		got := slices.Collect(host.Labels(s))
		if !slices.Equal(got, strings.Split(s, ".")) || strings.Join(got, ".") != s {
			t.Fatalf("Labels(%q): %q", s, got)
		}
	}
	for b := range probe.Short([]byte(".a-\xff"), 8) {
		asLibrary(string(b))
	}
	for x := range 256 {
		one := string([]byte{byte(x)})
		for _, s := range []string{one, "a" + one, one + "a", one + ".", "." + one, "a" + one + "b.c", one + "." + one, one + one} {
			asLibrary(s)
		}
	}
	for _, s := range slices.Concat(hosts(), wilds(), emails(), noHosts()) {
		asLibrary(s)
	}
	var draws probe.Draws
	for i := range 2000 {
		b := draws.Bytes(i % 100)
		for at := range b {
			if b[at]%4 == 0 {
				b[at] = '.'
			}
		}
		asLibrary(string(b))
	}
}

// P13.2, P2: a walk may be left at each piece, and made again, also within itself.
func TestLabelsAgain(t *testing.T) {
	for _, c := range cut {
		labels := host.Labels(c.s)
		for stop := range c.want {
			var l []string
			for label := range labels {
				l = append(l, label)
				if len(l) == stop+1 {
					break
				}
			}
			if !slices.Equal(l, c.want[:stop+1]) {
				t.Errorf("Labels(%q), left at the piece %d: %q", c.s, stop, l)
			}
		}
		for range 2 {
			count := 0
			for label := range labels {
				if inner := slices.Collect(labels); !slices.Equal(inner, c.want) || label != c.want[count] {
					t.Errorf("Labels(%q), gone over within itself: %q at %q", c.s, inner, label)
				}
				count++
			}
			if count != len(c.want) {
				t.Errorf("Labels(%q), again: %d pieces", c.s, count)
			}
		}
	}
}

// P13.2, P2: when a walk is left, at any piece, nothing more is asked of it.
func TestLabelsLeft(t *testing.T) {
	for _, c := range cut {
		for stop := 1; stop <= len(c.want); stop++ {
			asked := 0
			host.Labels(c.s)(func(string) bool {
				asked++
				return asked < stop
			})
			if asked != stop {
				t.Errorf("Labels(%q), left at the piece %d: asked %d times", c.s, stop, asked)
			}
		}
	}
}

// P13.2, P2: two walks side by side, of one function and of two, the one ahead of the other.
func TestLabelsSideBySide(t *testing.T) {
	for _, c := range cut {
		labels := host.Labels(c.s)
		for _, other := range []iter.Seq[string]{labels, host.Labels(c.s)} {
			for lead := range c.want {
				one, stopOne := iter.Pull(labels)
				two, stopTwo := iter.Pull(other)
				var first, second []string
				for at := range len(c.want) + lead {
					if label, more := one(); more {
						first = append(first, label)
					}
					if at < lead {
						continue
					}
					if label, more := two(); more {
						second = append(second, label)
					}
				}
				stopOne()
				stopTwo()
				if !slices.Equal(first, c.want) || !slices.Equal(second, c.want) {
					t.Errorf("Labels(%q), side by side: %q and %q", c.s, first, second)
				}
			}
		}
	}
}

// P13.2: of any length.
func TestLabelsLong(t *testing.T) {
	for s, want := range map[string]int{strings.Repeat(".", 1<<20): 1<<20 + 1, strings.Repeat("a.", 1<<20): 1<<20 + 1, strings.Repeat("a", 1<<20): 1, strings.Repeat("a", 1<<20) + ".b": 2} {
		count, size := 0, 0
		for label := range host.Labels(s) {
			count++
			size += len(label)
		}
		if count != want || size+count-1 != len(s) {
			t.Errorf("many %.3q: %d pieces of %d bytes", s, count, size)
		}
	}
}
