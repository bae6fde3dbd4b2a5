package text_test

import (
	"math"
	"strings"
	"testing"

	"chancery/api"
	"chancery/text"
)

// printable: all bytes of the kind 19, written out.
const printable = "ABCDEFGHIJKLMNOPQRSTUVWXYZabcdefghijklmnopqrstuvwxyz0123456789 '()+,-./:=?"

// kinds fails unless s is a text of these kinds; and Kind says so. Of the kinds 19, 22 and 12 each has in it those ahead of it.
func kinds(t *testing.T, s string, is19, is22, is12 bool) {
	t.Helper()
	if text.May(19, s) != is19 || text.May(22, s) != is22 || text.May(12, s) != is12 {
		t.Errorf("May(.., %.40q), of %d bytes: 19 %t, 22 %t, 12 %t", s, len(s), text.May(19, s), text.May(22, s), text.May(12, s))
	}
	want, wrong := 0, api.ErrText
	if is19 {
		want, wrong = 19, api.OK
	} else if is12 {
		want, wrong = 12, api.OK
	}
	if k, e := text.Kind(s); k != want || e != wrong {
		t.Errorf("Kind(%.40q), of %d bytes: %d, error %d; want %d, error %d", s, len(s), k, e, want, wrong)
	}
}

// P5.2
func TestKinds(t *testing.T) {
	kinds(t, "", true, true, true)
	kinds(t, "O'Brien (x)", true, true, true)
	kinds(t, "   ", true, true, true)
	kinds(t, "http://a.b/c?d=e+f,g-h", true, true, true)
	kinds(t, printable, true, true, true)
	kinds(t, "a@b", false, true, true)
	kinds(t, "a*b", false, true, true)
	kinds(t, "*.example.com", false, true, true)
	kinds(t, "a_b", false, true, true)
	kinds(t, "a\tb", false, true, true)
	kinds(t, "\x00", false, true, true)
	kinds(t, "\x7f", false, true, true)
	kinds(t, "\u00e9", false, false, true)
	kinds(t, "caf\u00e9", false, false, true)
	kinds(t, "a@\u20ac", false, false, true)
	kinds(t, "\u00a0", false, false, true) // a blank of another kind
	kinds(t, "\ufffd", false, false, true)
	kinds(t, "\uff21", false, false, true) // a wide A
	kinds(t, "\U0001f600", false, false, true)
	kinds(t, "\xff", false, false, false)
	kinds(t, "a\xffb", false, false, false)
	kinds(t, "a\xe2\x82", false, false, false)
}

// P5.2: each byte as a text, and among bytes of the kind 19, at each end and in the middle.
func TestKindsEachByte(t *testing.T) {
	for x := range 256 {
		s := string([]byte{byte(x)})
		for _, c := range []string{s, s + "a", "a" + s, "a" + s + "b", printable + s + printable} {
			kinds(t, c, strings.Contains(printable, s), x < 128, x < 128)
		}
	}
}

// P5.2: the characters around each length's bounds, and what begins none.
func TestKindsEdges(t *testing.T) {
	for _, c := range edges {
		kinds(t, c.s, false, c.r < 128, true)
		kinds(t, "a "+c.s+" b", false, c.r < 128, true)
		for cut := 1; cut < len(c.s); cut++ {
			kinds(t, c.s[:cut], false, false, false)
			kinds(t, c.s[:cut]+"a", false, false, false)
		}
	}
	for _, s := range none {
		kinds(t, s, false, false, false)
		kinds(t, "a "+s+" b", false, false, false)
		kinds(t, "\u00e9"+s, false, false, false)
	}
}

// P5.2: no kind but these three has a text.
func TestNoKind(t *testing.T) {
	others := []int{math.MinInt, math.MinInt + 12, -1 << 32, 1<<32 + 12, 1<<32 + 19, 1<<32 + 22, 1<<16 + 12, math.MaxInt}
	for kind := -300; kind <= 300; kind++ {
		others = append(others, kind)
	}
	for _, kind := range others {
		if kind == 12 || kind == 19 || kind == 22 {
			continue
		}
		for _, s := range []string{"", "a", "a@b", "\u00e9", "\xff", strings.Repeat("a", api.MaxText+1)} {
			if text.May(kind, s) {
				t.Errorf("May(%d, %.10q)", kind, s)
			}
		}
	}
}

// P5.2: texts of MaxText bytes, and of one more; it is bytes that count, not characters.
func TestKindsLong(t *testing.T) {
	if api.MaxText != 4096 {
		t.Fatal(api.MaxText)
	}
	for _, c := range []struct {
		one        string
		is19, is22 bool
	}{
		{"a", true, true}, {" ", true, true}, {"@", false, true}, {"\x00", false, true}, {"\u00e9", false, false}, {"\U0001f600", false, false},
	} {
		s := strings.Repeat(c.one, 4096/len(c.one))
		kinds(t, s, c.is19, c.is22, true)
		kinds(t, s+"a", false, false, false)
		kinds(t, "a"+s, false, false, false)
		kinds(t, s+s, false, false, false)
		kinds(t, s[:4096-len(c.one)], c.is19, c.is22, true)
	}
	kinds(t, strings.Repeat("a", 4095)+"@", false, true, true)
	kinds(t, strings.Repeat("a", 4095)+"\xff", false, false, false)
	kinds(t, strings.Repeat("a", 4094)+"\u00e9", false, false, true)
	kinds(t, strings.Repeat("a", 4095)+"\u00e9", false, false, false) // the limit lies within the character
	kinds(t, strings.Repeat("\u20ac", 1365)+"a", false, false, true)
	kinds(t, strings.Repeat("\u20ac", 1366), false, false, false)
	kinds(t, strings.Repeat("a", 1<<22), false, false, false)
}
