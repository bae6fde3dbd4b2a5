package within_test

import (
	"slices"
	"strings"
	"testing"

	"chancery/api"
	"chancery/host"
	"chancery/probe"
	"chancery/within"
)

// P14.5: what is All of a subtree is Some of it, and of names that are not wild both are the same.
func TestAllIsSome(t *testing.T) {
	var differ int
	names := slices.Concat(goodNames(), badNames())
	for _, tree := range slices.Concat(goodTrees(), list(noTree, api.Subtree{}, api.Subtree{Kind: 3, Base: "a.b"})) {
		for _, g := range names {
			all, some := within.All(tree, g), within.Some(tree, g)
			if all && !some {
				t.Fatalf("%s in %s: All, and not Some", show(g), showTree(tree))
			}
			if all == some {
				continue
			}
			differ++
			if g.Kind != 2 || !host.Wild(g.Text) {
				t.Fatalf("%s in %s: Some, and not All", show(g), showTree(tree))
			}
		}
	}
	if differ < 10 {
		t.Errorf("only %d differ", differ)
	}
}

// P14.5: of a wild name All and Some say of each host that it stands for what that host says.
func TestWildStandsForHosts(t *testing.T) {
	for _, base := range hostNames() {
		tree := hostTree(base)
		for _, g := range goodNames() {
			for _, s := range standsFor(tree, g) {
				one := within.All(tree, api.General{Kind: g.Kind, Text: s})
				if within.All(tree, g) && !one || !within.Some(tree, g) && one {
					t.Fatalf("%s in %s, for which %q: %t", show(g), showTree(tree), s, one)
				}
			}
		}
	}
}

// P14.5: what is below something that is below a third one is below that.
func TestBelowOfThree(t *testing.T) {
	var l []string
	for b := range probe.Short([]byte("aBb"), 3) {
		l = append(l, strings.Join(strings.Split(string(b), ""), "."))
	}
	l = append(l, hostNames()...)
	l = append(l, "x.1", ".a.b", "*.a.b")
	taken := 0
	for _, a := range l {
		if within.Below(a, a) != host.DNS(a) {
			t.Errorf("%q below itself: not %t", a, host.DNS(a))
		}
		for _, b := range l {
			if !within.Below(a, b) {
				continue
			}
			if within.Below(b, a) != strings.EqualFold(a, b) {
				t.Errorf("%q and %q are below each other", a, b)
			}
			for _, c := range l {
				if within.Below(b, c) {
					taken++
					if !within.Below(a, c) {
						t.Errorf("%q below %q, this below %q", a, b, c)
					}
				}
			}
		}
	}
	if taken < 1000 {
		t.Errorf("only %d are taken", taken)
	}
}

// P14.5: more permitted of a kind that is permitted takes what was taken; more excluded takes no more.
func TestMoreSubtrees(t *testing.T) {
	var draws probe.Draws
	good, names := near()
	var taken, refused int
	for range 50000 {
		permitted, excluded := drawnTrees(&draws, good, list(treeAB), 4), drawnTrees(&draws, good, list(treeAB), 3)
		g, more := names[draws.Next()%uint64(len(names))], good[draws.Next()%uint64(len(good))]
		_, was := within.Check(permitted, excluded, g)
		known := slices.ContainsFunc(permitted, func(x api.Subtree) bool { return x.Kind == more.Kind })
		if was == api.OK && known {
			taken++
			for at := range len(permitted) + 1 {
				checks(t, slices.Insert(slices.Clone(permitted), at, more), excluded, g, 0, api.OK)
			}
		}
		if was == api.OK {
			continue
		}
		refused++
		for at := range len(excluded) + 1 {
			if _, e := within.Check(permitted, slices.Insert(slices.Clone(excluded), at, more), g); e != was {
				t.Fatalf("Check(%s; %s and %s at %d; %s): error %d; it was %d", showTrees(permitted), showTrees(excluded), showTree(more), at, show(g), e, was)
			}
		}
	}
	if taken < 1000 || refused < 1000 {
		t.Errorf("only %d and %d", taken, refused)
	}
}

// P14.5: the same of rows of names.
func TestMoreSubtreesOfRows(t *testing.T) {
	var draws probe.Draws
	good, names := near()
	var taken, refused int
	for range 20000 {
		permitted, excluded := drawnTrees(&draws, good, list(treeAB), 4), drawnTrees(&draws, good, list(treeAB), 2)
		var l []api.General
		for range 1 + draws.Next()%3 {
			l = append(l, names[draws.Next()%uint64(len(names))])
		}
		more := good[draws.Next()%uint64(len(good))]
		_, _, was := within.Row(permitted, excluded, l...)
		switch known := slices.ContainsFunc(permitted, func(x api.Subtree) bool { return x.Kind == more.Kind }); {
		case was != api.OK:
			refused++
			if _, _, e := within.Row(permitted, append(list(more), excluded...), l...); e == api.OK {
				t.Fatalf("with %s excluded more is taken", showTree(more))
			}
		case known:
			taken++
			rows(t, append(list(more), permitted...), excluded, l, 0, 0, api.OK)
		}
	}
	if taken < 300 || refused < 1000 {
		t.Errorf("only %d and %d", taken, refused)
	}
}
