package name_test

import (
	"iter"
	"slices"
	"strings"
	"testing"

	"chancery/name"
	"chancery/probe"
)

// cut are texts with their pieces, written out.
var cut = []struct {
	s    string
	want []string
}{
	{"", []string{""}},
	{"a", []string{"a"}},
	{"abc", []string{"abc"}},
	{",", []string{"", ""}},
	{",,", []string{"", "", ""}},
	{"a,", []string{"a", ""}},
	{",a", []string{"", "a"}},
	{"a,b", []string{"a", "b"}},
	{"a,,b", []string{"a", "", "b"}},
	{`a,b\,c,`, []string{"a", `b\,c`, ""}},
	{`\`, []string{`\`}},
	{`\\`, []string{`\\`}},
	{`a\`, []string{`a\`}},
	{`a,\`, []string{"a", `\`}},
	{`\,`, []string{`\,`}},
	{`,\`, []string{"", `\`}},
	{`\,,`, []string{`\,`, ""}},
	{`,\,`, []string{"", `\,`}},
	{`\\,`, []string{`\\`, ""}},
	{`\\\,`, []string{`\\\,`}},
	{`\\\\,`, []string{`\\\\`, ""}},
	{`\,\`, []string{`\,\`}},
	{`\,\,`, []string{`\,\,`}},
	{`a\\,b\\\,c`, []string{`a\\`, `b\\\,c`}},
	{`\a,b`, []string{`\a`, "b"}},
	{`\a\,b`, []string{`\a\,b`}},
	{`C=DE,O=a\, b,CN==`, []string{"C=DE", `O=a\, b`, "CN=="}},
	{" , ", []string{" ", " "}},
	{"\xff,\xfe", []string{"\xff", "\xfe"}},
	{"\\\xff,\xff", []string{"\\\xff", "\xff"}},
	{"\xff\\,\xff", []string{"\xff\\,\xff"}},
	{"\\\u00e9,\u00e9", []string{"\\\u00e9", "\u00e9"}},
	{"\\\xc3,\xa9", []string{"\\\xc3", "\xa9"}},
	{"\xe2\x82,\xac", []string{"\xe2\x82", "\xac"}},
	{"\x00,\x00\n", []string{"\x00", "\x00\n"}},
	{"a\uff0cb\u3001c\x3b", []string{"a\uff0cb\u3001c;"}}, // other commas are none
}

// P12.5
func TestParts(t *testing.T) {
	for _, c := range cut {
		if got := slices.Collect(name.Parts(c.s)); !slices.Equal(got, c.want) {
			t.Errorf("Parts(%q): %q; want %q", c.s, got, c.want)
		}
	}
}

// P12.5: all short texts, the other way; with commas between the pieces are the text.
func TestPartsOtherWay(t *testing.T) {
	for b := range probe.Short([]byte(",\\a\xff"), 8) {
		s := string(b)
		got := slices.Collect(name.Parts(s))
		if !slices.Equal(got, pieces(s)) || strings.Join(got, ",") != s {
			t.Fatalf("Parts(%q): %q; want %q", s, got, pieces(s))
		}
	}
}

// P12.5: each byte alone, behind a \, and ahead of a comma.
func TestPartsEachByte(t *testing.T) {
	for x := range 256 {
		one := string([]byte{byte(x)})
		for s, want := range map[string][]string{
			one:                  {one},
			`\` + one:            {`\` + one},
			"a" + one + "b":      {"a" + one + "b"},
			`a\` + one + "b":     {`a\` + one + "b"},
			one + ",b":           {one, "b"},
			`\` + one + ",b":     {`\` + one, "b"},
			"a," + one:           {"a", one},
			`a\,` + one + `\,b,`: {`a\,` + one + `\,b`, ""},
		} {
			if one == "," || one == `\` {
				want = pieces(s)
			}
			if got := slices.Collect(name.Parts(s)); !slices.Equal(got, want) {
				t.Errorf("Parts(%q): %q; want %q", s, got, want)
			}
		}
	}
}

// P12.5, P2: a walk may be left at each piece, and made again, also within itself.
func TestPartsAgain(t *testing.T) {
	for _, c := range cut {
		parts := name.Parts(c.s)
		for stop := range c.want {
			var l []string
			for part := range parts {
				l = append(l, part)
				if len(l) == stop+1 {
					break
				}
			}
			if !slices.Equal(l, c.want[:stop+1]) {
				t.Errorf("Parts(%q), left at the piece %d: %q", c.s, stop, l)
			}
		}
		for range 2 {
			count := 0
			for part := range parts {
				if inner := slices.Collect(parts); !slices.Equal(inner, c.want) || part != c.want[count] {
					t.Errorf("Parts(%q), gone over within itself: %q at %q", c.s, inner, part)
				}
				count++
			}
			if count != len(c.want) {
				t.Errorf("Parts(%q), again: %d pieces", c.s, count)
			}
		}
	}
}

// P12.5, P2: when a walk is left, at any piece, nothing more is asked of it.
func TestPartsLeft(t *testing.T) {
	for _, c := range cut {
		for stop := 1; stop <= len(c.want); stop++ {
			asked := 0
			name.Parts(c.s)(func(string) bool {
				asked++
				return asked < stop
			})
			if asked != stop {
				t.Errorf("Parts(%q), left at the piece %d: asked %d times", c.s, stop, asked)
			}
		}
	}
}

// P12.5, P2: two walks side by side, of one function and of two, the one ahead of the other.
func TestPartsSideBySide(t *testing.T) {
	for _, c := range cut {
		parts := name.Parts(c.s)
		for _, other := range []iter.Seq[string]{parts, name.Parts(c.s)} {
			for lead := range c.want {
				one, stopOne := iter.Pull(parts)
				two, stopTwo := iter.Pull(other)
				var first, second []string
				for at := range len(c.want) + lead {
					if part, more := one(); more {
						first = append(first, part)
					}
					if at < lead {
						continue
					}
					if part, more := two(); more {
						second = append(second, part)
					}
				}
				stopOne()
				stopTwo()
				if !slices.Equal(first, c.want) || !slices.Equal(second, c.want) {
					t.Errorf("Parts(%q), side by side: %q and %q", c.s, first, second)
				}
			}
		}
	}
}

// P12.5: of any length.
func TestPartsLong(t *testing.T) {
	for s, want := range map[string]int{strings.Repeat(",", 1<<20): 1<<20 + 1, strings.Repeat(`\,`, 1<<20): 1, strings.Repeat(`\\,`, 1<<20): 1<<20 + 1, strings.Repeat("a", 1<<20): 1, strings.Repeat(`\`, 1<<20): 1} {
		count, size := 0, 0
		for part := range name.Parts(s) {
			count++
			size += len(part)
		}
		if count != want || size+count-1 != len(s) {
			t.Errorf("many %.3q: %d pieces of %d bytes", s, count, size)
		}
	}
}
