package within_test

import (
	"runtime"
	"slices"
	"sync"
	"testing"
	"time"
	"unsafe"

	"chancery/api"
	"chancery/probe"
	"chancery/within"
)

// loose is a text over bytes that can be written over.
func loose(s string) (string, []byte) {
	b := []byte(s)
	return unsafe.String(unsafe.SliceData(b), len(b)), b
}

// P2: texts are left as they are.
func TestTextsAreLeft(t *testing.T) {
	for _, tree := range slices.Concat(goodTrees(), list(noTree, mailTree("."), api.Subtree{Kind: 3, Base: "a"})) {
		base, b := loose(tree.Base)
		given := api.Subtree{Kind: tree.Kind, Base: base}
		for _, g := range []api.General{dns("X.A.b"), dns("*.A.b"), mail("a@C.d"), dn("C=DE,O=A"), ip("0a090909"), {Kind: 2}} {
			text, c := loose(g.Text)
			name := api.General{Kind: g.Kind, Text: text}
			within.May(given)
			within.All(given, name)
			within.Some(given, name)
			within.Below(base, text)
			within.Below(text, base)
			within.Check(list(given), list(given), name)
			within.Row(list(given), list(given), name, name)
			if string(b) != tree.Base || string(c) != g.Text {
				t.Fatalf("%s and %s are changed: %q, %q", showTree(tree), show(g), b, c)
			}
		}
	}
}

// P2: lists are left as they are, the spare room behind them too; nor does that room count.
func TestListsAreLeft(t *testing.T) {
	spareTree, spareName := hostTree("x.a.b"), dns("-")
	for _, permitted := range [][]api.Subtree{nil, list(treeAB), list(treeMail, treeAB, treeName, treeNet), list(treeC), list(treeAB, noTree)} {
		for _, excluded := range [][]api.Subtree{nil, list(hostTree("y.a.b")), list(treeMail, treeName, treeAB), list(noTree, treeAB)} {
			for _, names := range [][]api.General{nil, {dns("x.a.b")}, {dns("q.a.b"), mail("a@c.d"), dns("y.a.b")}, {dn(""), dns("-")}} {
				givenPermitted, wholePermitted := probe.RoomyWith(permitted, spareTree)
				givenExcluded, wholeExcluded := probe.RoomyWith(excluded, spareTree)
				given, whole := probe.RoomyWith(names, spareName)
				wasPermitted, wasExcluded, was := slices.Clone(wholePermitted), slices.Clone(wholeExcluded), slices.Clone(whole)
				i, place, wrong := within.Row(permitted, excluded, names...)
				rows(t, givenPermitted, givenExcluded, given, i, place, wrong)
				for _, g := range given {
					place, wrong := checked(permitted, excluded, g)
					checks(t, givenPermitted, givenExcluded, g, place, wrong)
				}
				if !slices.Equal(wholePermitted, wasPermitted) || !slices.Equal(wholeExcluded, wasExcluded) || !slices.Equal(whole, was) {
					t.Fatalf("Row(%s; %s; %d names) changes them", showTrees(permitted), showTrees(excluded), len(names))
				}
			}
		}
	}
}

// P2: lists may lie over each other, and be written over between calls: nothing is kept of them.
func TestListsAreNotKept(t *testing.T) {
	l := list(treeC, treeAB, treeXAB, treeAB)
	checks(t, l[:2], l[1:], dns("a.b"), 0, api.ErrWithin)
	checks(t, l[:2], l[2:3], dns("a.b"), 0, api.OK)
	checks(t, l, l, dns("b"), 0, api.ErrOut)
	probe.Scribble(l, treeMail)
	checks(t, l[:2], l[1:], dns("a.b"), 0, api.OK)
	checks(t, l[:2], l[1:], mail("a@c.d"), 0, api.ErrOut)
	checks(t, l[:2], l[1:], mail("a@x.c.d"), 0, api.ErrWithin)
	probe.Scribble(l, noTree)
	checks(t, l[:2], l[1:], dns("a.b"), 0, api.ErrTree)
	checks(t, l[:0], l[:0], dns("a.b"), 0, api.OK)
}

// P3: nil lists and empty ones are alike.
func TestNoLists(t *testing.T) {
	empty := []api.Subtree{}
	for _, permitted := range [][]api.Subtree{nil, empty, list(treeAB)[:0]} {
		for _, excluded := range [][]api.Subtree{nil, empty, list(noTree)[:0]} {
			for _, g := range goodNames() {
				checks(t, permitted, excluded, g, 0, api.OK)
				rows(t, permitted, excluded, []api.General{g, g}, 0, 0, api.OK)
			}
			for _, g := range badNames() {
				checks(t, permitted, excluded, g, 0, api.ErrHost)
			}
			rows(t, permitted, excluded, nil, 0, 0, api.OK)
			rows(t, permitted, excluded, []api.General{}, 0, 0, api.OK)
		}
	}
}

// P3, P5: the same is answered again, behind errors too, and no goroutine is left.
func TestNothingIsKept(t *testing.T) {
	before := runtime.NumGoroutine()
	trees, names := near()
	for range 3 {
		for _, tree := range trees {
			for _, g := range names {
				for range 2 {
					asWords(t, tree, g)
					place, e := checked(list(tree), list(treeXAB, tree), g)
					checks(t, list(tree), list(treeXAB, tree), g, place, e)
				}
				checks(t, list(tree, noTree), nil, g, 1, api.ErrTree)
				stands(t, noTree, g, false, false)
				asBelow(t, tree.Base, g.Text)
			}
		}
	}
	for range 100 { // an earlier test's may end meanwhile, but none begins
		if runtime.NumGoroutine() <= before {
			return
		}
		time.Sleep(10 * time.Millisecond)
	}
	t.Errorf("%d goroutines, ahead of it %d", runtime.NumGoroutine(), before)
}

// P3: the same is answered to several that ask at once.
func TestAtOnce(t *testing.T) {
	permitted, excluded := list(treeAB, treeMail, treeName, treeNet), list(treeC, treeXAB)
	l := []api.General{dns("y.a.b"), mail("a@x.c.d"), dn("C=DE,O=a"), ip("0a000001"), dns("*.a.b")}
	var group sync.WaitGroup
	for range 8 {
		group.Go(func() {
			for range 200 {
				i, place, e := within.Row(permitted, excluded, l...)
				if i != 4 || place != 1 || e != api.ErrWithin || !within.All(treeAB, l[0]) || within.All(treeXAB, l[4]) || !within.Some(treeXAB, l[4]) || !within.Below("x.a.b", "A.B") || within.May(noTree) {
					t.Errorf("%d, %d, error %d", i, place, e)
				}
			}
		})
	}
	group.Wait()
}
