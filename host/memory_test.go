package host_test

import (
	"runtime"
	"slices"
	"strings"
	"sync"
	"testing"
	"unsafe"

	"chancery/api"
	"chancery/host"
)

// share tells whether two texts have memory in common.
func share(a, b string) bool {
	if a == "" || b == "" {
		return false
	}
	x, y := uintptr(unsafe.Pointer(unsafe.StringData(a))), uintptr(unsafe.Pointer(unsafe.StringData(b)))
	return x < y+uintptr(len(b)) && y < x+uintptr(len(a))
}

// loose is a text over bytes, which a text shares that is kept of it.
func loose(s string) (text string, b []byte) {
	b = []byte(s)
	return unsafe.String(unsafe.SliceData(b), len(b)), b
}

// apart fails if two of some texts share memory.
func apart(t *testing.T, l []string) {
	t.Helper()
	for i, a := range l {
		for j, b := range l[:i] {
			if share(a, b) {
				t.Errorf("the texts %d and %d, %q and %q, share memory", j, i, b, a)
			}
		}
	}
}

// P2: what is answered is memory of its own: of the argument, of other answers, and of the program.
func TestTextsAreTheirOwn(t *testing.T) {
	for _, k := range known {
		l := []string{k.s, k.g.Text}
		for range 2 {
			s, e1 := host.Show(k.g)
			g, e2 := host.Parse(k.s)
			if e1 != api.OK || e2 != api.OK || s != k.s || g != k.g {
				t.Fatalf("%q, %s, errors %d and %d", s, show(g), e1, e2)
			}
			l = append(l, s, g.Text)
		}
		apart(t, l)
	}
	for _, c := range cut {
		labels := host.Labels(c.s)
		l := slices.Concat([]string{c.s}, slices.Collect(labels), slices.Collect(labels), slices.Collect(host.Labels(c.s)))
		apart(t, l)
	}
}

// P2: what was answered stays when the argument's memory is written over; arguments are left as they are.
func TestArgumentsAreLeft(t *testing.T) {
	for _, g := range goods(t) {
		want := textOf(t, g)
		text, b := loose(g.Text)
		given := api.General{Kind: g.Kind, Text: text}
		host.May(given)
		s, e := host.Show(given)
		if string(b) != g.Text || e != api.OK {
			t.Fatalf("%s is changed: %q, error %d", show(g), b, e)
		}
		clear(b)
		if s != want {
			t.Fatalf("Show(%s) keeps its argument: %q", show(g), s)
		}

		text, b = loose(want)
		got, e := host.Parse(text)
		if string(b) != want || e != api.OK {
			t.Fatalf("%q is changed: %q, error %d", want, b, e)
		}
		clear(b)
		if got != g {
			t.Fatalf("Parse(%q) keeps its argument: %s", want, show(got))
		}
	}
}

// P2: questions leave their texts as they are, those that they say no to as well.
func TestAskedTextsAreLeft(t *testing.T) {
	for _, was := range slices.Concat(hosts(), wilds(), emails(), noHosts(), noWilds(), noEmails()) {
		if len(was) > 1000 {
			continue
		}
		text, b := loose(was)
		asWords(t, text)
		asMatch(t, text, text)
		asMatch(t, "*.a.b", text)
		asMatch(t, text, "x.a.b")
		host.Parse(text)
		labels := slices.Collect(host.Labels(text))
		if string(b) != was {
			t.Fatalf("%q is changed: %q", was, b)
		}
		clear(b)
		if strings.Join(labels, ".") != was {
			t.Fatalf("Labels(%q) keeps its argument: %q", was, labels)
		}
	}
}

// P3, P5: the same is told again, behind errors too, and no goroutine is left.
func TestNothingIsKept(t *testing.T) {
	before := runtime.NumGoroutine()
	for range 20 {
		for _, k := range known {
			noText(t, " "+k.s)
			refuses(t, api.General{Kind: 3, Text: k.g.Text})
			refuses(t, api.General{Kind: k.g.Kind, Text: k.g.Text + strings.Repeat("\x00", 13)})
			for range host.Labels(k.s) {
				break
			}
			asMatch(t, "*.a.b", k.g.Text)
			asWords(t, k.g.Text)
			takes(t, k.g, k.s)
		}
	}
	if after := runtime.NumGoroutine(); after > before {
		t.Errorf("%d goroutines, ahead of it %d", after, before)
	}
}

// P3: the same is told to several that ask at once.
func TestAtOnce(t *testing.T) {
	labels := host.Labels("a..b")
	var group sync.WaitGroup
	for range 8 {
		group.Go(func() {
			for range 20 {
				for _, k := range known {
					s, e1 := host.Show(k.g)
					g, e2 := host.Parse(k.s)
					if e1 != api.OK || e2 != api.OK || s != k.s || g != k.g || !host.Match("*.a.b", "X.A.b") || !slices.Equal(slices.Collect(labels), []string{"a", "", "b"}) {
						t.Errorf("%s: %q, %s, errors %d and %d", show(k.g), s, show(g), e1, e2)
					}
				}
			}
		})
	}
	group.Wait()
}
