package host_test

import (
	"slices"
	"strings"
	"testing"

	"chancery/api"
	"chancery/host"
	"chancery/probe"
)

// drawnHost is a host's name that looks like chance: of few letters, so that some are the same.
func drawnHost(draws *probe.Draws) string {
	labels := []string{"a", "A", "b", "a-b", "1", "x", "B", "ab"}
	var l []string
	for range 1 + draws.Next()%4 {
		l = append(l, labels[draws.Next()%uint64(len(labels))])
	}
	return strings.Join(append(l, []string{"a", "A", "b"}[draws.Next()%3]), ".")
}

// drawn is a general name that may be, and looks like chance.
func drawn(t *testing.T, draws *probe.Draws) api.General {
	t.Helper()
	switch draws.Next() % 6 {
	case 0:
		return api.General{Kind: 1, Text: locals()[draws.Next()%uint64(len(locals()))] + "@" + drawnHost(draws)}
	case 1:
		return api.General{Kind: 2, Text: drawnHost(draws)}
	case 2:
		return api.General{Kind: 2, Text: "*." + drawnHost(draws)}
	case 3:
		return api.General{Kind: 7, Text: string(draws.Bytes(4))}
	case 4:
		return api.General{Kind: 7, Text: string(draws.Bytes(16))}
	}
	texts := nameTexts()
	return api.General{Kind: 4, Text: nameBytes(t, texts[draws.Next()%uint64(len(texts))])}
}

// P13.5: Parse of Show is the general name.
func TestThereAndBack(t *testing.T) {
	var draws probe.Draws
	for range 5000 {
		g := drawn(t, &draws)
		s, e1 := host.Show(g)
		again, e2 := host.Parse(s)
		if e1 != api.OK || e2 != api.OK || again != g {
			t.Fatalf("%s: %q, read as %s, errors %d and %d", show(g), s, show(again), e1, e2)
		}
	}
}

// P13.5: Show of what Parse takes is the text: of all that are one byte away from one.
func TestBackAndThere(t *testing.T) {
	var draws probe.Draws
	taken := 0
	for range 5000 {
		s := textOf(t, drawn(t, &draws))
		for range 10 {
			s := draws.Changed(s, `aA0f.-@*_:,=\ `)
			g, e := host.Parse(s)
			if e != api.OK {
				continue
			}
			taken++
			if again, e := host.Show(g); e != api.OK || again != s || !host.May(g) {
				t.Fatalf("%q, read as %s, is told as %q, error %d", s, show(g), again, e)
			}
		}
	}
	if taken < 5000 {
		t.Errorf("only %d are taken", taken)
	}
}

// P13.5: what Match takes has as many labels as the pattern; with one more, or one fewer, it is not taken.
func TestMatchedLabels(t *testing.T) {
	var draws probe.Draws
	var wild, same int
	try := func(pattern, s string) {
		t.Helper()
		if !host.Match(pattern, s) {
			return
		}
		if isWild(pattern) {
			wild++
		} else {
			same++
		}
		labels := slices.Collect(host.Labels(s))
		if len(labels) != len(slices.Collect(host.Labels(pattern))) {
			t.Fatalf("Match(%q, %q): true, and their labels are not as many", pattern, s)
		}
		for _, first := range []string{"a", "x", "1", labels[0], "*", "-", ""} {
			if host.Match(pattern, first+"."+s) {
				t.Fatalf("Match(%q, %s.%s): true", pattern, first, s)
			}
		}
		if host.Match(pattern, strings.Join(labels[1:], ".")) {
			t.Fatalf("Match(%q, ..): true of %q without its first label", pattern, s)
		}
	}
	for range 100000 {
		pattern, s := drawnHost(&draws), drawnHost(&draws)
		try(pattern, s)
		try(pattern, strings.ToUpper(pattern))
		try("*."+pattern, s)
		try("*."+pattern, "x."+s)
		try("*."+pattern, s+"."+pattern)
	}
	for _, s := range hosts() {
		try(s, strings.ToUpper(s))
		try("*."+s, "x."+s)
	}
	if wild < 1000 || same < 1000 {
		t.Errorf("only %d and %d are taken", wild, same)
	}
}

// P13.3: as patterns, hosts' names that are the same are so both ways, and through a third one.
func TestMatchIsAlike(t *testing.T) {
	var draws probe.Draws
	for range 100000 {
		a, b, c := drawnHost(&draws), drawnHost(&draws), drawnHost(&draws)
		if !host.Match(a, a) || host.Match(a, b) != host.Match(b, a) || host.Match(a, b) && host.Match(b, c) && !host.Match(a, c) {
			t.Fatalf("%q, %q, %q", a, b, c)
		}
	}
}
