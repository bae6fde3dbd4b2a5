package name_test

import (
	"math"
	"slices"
	"strings"
	"testing"

	"chancery/api"
	"chancery/name"
)

// of is a name whose attributes are all of the type 3.
func of(values ...string) api.Name {
	var n api.Name
	for _, v := range values {
		n = append(n, api.Attr{Type: 3, Value: v})
	}
	return n
}

// stands fails unless Same and Begins of two names are so, Same both ways.
func stands(t *testing.T, a, b api.Name, same, begins bool) {
	t.Helper()
	if name.Same(a, b) != same || name.Same(b, a) != same || name.Begins(a, b) != begins {
		t.Errorf("%s and %s: Same %t, the other way %t, Begins %t", show(a), show(b), name.Same(a, b), name.Same(b, a), name.Begins(a, b))
	}
}

// P12.3: the name without attributes, nil and empty.
func TestSameOfNone(t *testing.T) {
	for _, none := range []api.Name{nil, {}, of("a")[:0]} {
		for _, other := range []api.Name{nil, {}} {
			stands(t, none, other, true, true)
		}
		for _, n := range names() {
			stands(t, n, none, len(n) == 0, true)
			stands(t, none, n, len(n) == 0, len(n) == 0)
		}
		stands(t, none, of(""), false, false)
		stands(t, of(""), none, false, true)
	}
}

// P12.3: Values that are alike but not equal, and Values that are not alike.
func TestSameValues(t *testing.T) {
	for _, c := range []struct {
		a, b string
		same bool
	}{
		{"A  b", "a B", true}, {"a", "A", true}, {"a", " a ", true}, {"Example Org", " EXAMPLE   org", true}, {"\u00e9A", "\u00e9a", true}, {"a@B", "A@b", true}, {`\,`, ` \, `, true},
		{"a", "ab", false}, {"a b", "ab", false}, {"a", "b", false}, {"a b", "b a", false}, {"\u00e9", "\u00c9", false}, {"a", "a,", false}, {"a\tb", "a b", false}, {"k", "\u212a", false},
		{"", "", true}, {"", "  ", true}, {"", "a", false}, {"\xff", " \xff", true}, {"\xff", "\xfe", false}, {"\xffA", "\xffa", true}, // Values that may not be
		{strings.Repeat("aB ", 5000), strings.Repeat("Ab  ", 5000), true}, {strings.Repeat("a", 5000), strings.Repeat("a", 5001), false},
	} {
		stands(t, of(c.a), of(c.b), c.same, c.same)
		stands(t, of("x", c.a, "y"), of("X", c.b, " y"), c.same, c.same)
		stands(t, of("x", c.a, "y"), of("X", c.b), false, c.same)
		stands(t, of(c.a, c.a), of(c.b), false, c.same)
		stands(t, of(c.a), of(c.b, c.b), false, false)
	}
}

// P12.3: of any types, that are types or not: it is the same number that is asked for.
func TestSameTypes(t *testing.T) {
	l := append(slices.Clone(types), 0, -1, 4, 9, 12, 3+1<<32, math.MaxInt, math.MinInt)
	for _, j := range l {
		for _, k := range l {
			a, b := api.Name{{Type: j, Value: "A b"}}, api.Name{{Type: k, Value: "a  B"}}
			stands(t, a, b, j == k, j == k)
			stands(t, append(of("x"), a...), append(of("x"), b...), j == k, j == k)
			stands(t, append(slices.Clone(a), of("x")...), b, false, j == k)
		}
	}
}

// P12.3: what differs stands at any place, and which one is longer.
func TestSamePlaces(t *testing.T) {
	for length := 1; length <= 20; length++ {
		n := slices.Repeat(of("a"), length)
		for at := range length {
			other, type4 := slices.Clone(n), slices.Clone(n)
			other[at].Value, type4[at].Type = "b", 4
			stands(t, n, other, false, false)
			stands(t, n, type4, false, false)
			stands(t, n, n[:at], false, true)
			stands(t, n[:at], n, false, false)
			stands(t, other, n[:at], false, true)
			stands(t, n, other[:at+1], false, false)
		}
		stands(t, n, slices.Clone(n), true, true)
	}
}

// P12.3: the order of attributes counts.
func TestSameOrder(t *testing.T) {
	stands(t, of("a", "b"), of("b", "a"), false, false)
	stands(t, of("a", "b"), of("b"), false, false)
	stands(t, of("a", "a"), of("a"), false, true)
	stands(t, api.Name{{Type: 6, Value: "DE"}, {Type: 3, Value: "a"}}, api.Name{{Type: 6, Value: "de"}}, false, true)
	stands(t, api.Name{{Type: 6, Value: "DE"}, {Type: 3, Value: "a"}}, api.Name{{Type: 3, Value: "a"}}, false, false)
	stands(t, api.Name{{Type: 3, Value: "a"}, {Type: 6, Value: "DE"}}, api.Name{{Type: 6, Value: "DE"}, {Type: 3, Value: "a"}}, false, false)
}

// P12.3: of more attributes than a name may have.
func TestSameOfMany(t *testing.T) {
	a, b := slices.Repeat(of("A"), 100000), slices.Repeat(of(" a"), 100000)
	stands(t, a, b, true, true)
	stands(t, a, b[:99999], false, true)
	stands(t, a[:99999], b, false, false)
	b[99999].Value = "b"
	stands(t, a, b, false, false)
}

// few are names among which there are many that are alike, and that begin with others.
func few() []api.Name {
	attrs := api.Name{{Type: 3, Value: "a"}, {Type: 3, Value: "A "}, {Type: 3, Value: "b"}, {Type: 4, Value: "a"}, {Type: 3, Value: "\xff"}, {Type: 3}}
	l := []api.Name{nil, {}}
	for _, a := range attrs {
		l = append(l, api.Name{a})
		for _, b := range attrs {
			l = append(l, api.Name{a, b})
		}
	}
	for i := range attrs {
		l = append(l, attrs[i:], slices.Concat(attrs[:i], attrs[i:]))
	}
	return l
}

// P12.6: Same is an equivalence; what Begins with a name begins with what it begins with.
func TestSameOfThree(t *testing.T) {
	l := few()
	for _, a := range l {
		if !name.Same(a, a) || !name.Begins(a, a) {
			t.Errorf("%s is not the same as itself", show(a))
		}
		for _, b := range l {
			same, begins := name.Same(a, b), name.Begins(a, b)
			if same != name.Same(b, a) || same != (begins && name.Begins(b, a)) || same != (begins && len(a) == len(b)) || begins && len(a) < len(b) {
				t.Errorf("%s and %s: Same %t, Begins %t", show(a), show(b), same, begins)
			}
			if begins != (len(a) >= len(b) && name.Same(a[:min(len(a), len(b))], b)) {
				t.Errorf("Begins(%s, %s): %t", show(a), show(b), begins)
			}
			for _, c := range l {
				if same && name.Same(b, c) && !name.Same(a, c) {
					t.Errorf("%s, %s and %s: Same twice, but not a third time", show(a), show(b), show(c))
				}
				if begins && name.Begins(b, c) && !name.Begins(a, c) {
					t.Errorf("%s, %s and %s: Begins twice, but not a third time", show(a), show(b), show(c))
				}
				if same && (name.Begins(a, c) != name.Begins(b, c) || name.Begins(c, a) != name.Begins(c, b)) {
					t.Errorf("%s and %s are the same, but not with %s", show(a), show(b), show(c))
				}
			}
		}
	}
}
