package within_test

import (
	"slices"
	"testing"

	"chancery/api"
	"chancery/probe"
	"chancery/within"
)

// P14.4: rows of no names, of one, and of many.
func TestRow(t *testing.T) {
	x, y, no, out := dns("x.a.b"), dns("y.a.b"), dns("-"), dns("c.d")
	for _, r := range []struct {
		permitted, excluded []api.Subtree
		l                   []api.General
		i, place            int
		wrong               api.Errno
	}{
		{nil, nil, nil, 0, 0, api.OK}, {list(treeAB), list(treeAB), nil, 0, 0, api.OK}, {list(noTree), list(noTree), nil, 0, 0, api.OK}, {nil, list(noTree), []api.General{}, 0, 0, api.OK}, // none is asked about
		{nil, nil, []api.General{x}, 0, 0, api.OK}, {list(treeAB), nil, []api.General{x}, 0, 0, api.OK}, {list(treeAB), nil, []api.General{out}, 0, 0, api.ErrOut}, {nil, list(treeC, treeAB), []api.General{x}, 0, 1, api.ErrWithin}, {nil, nil, []api.General{no}, 0, 0, api.ErrHost}, {list(treeAB), list(treeC, noTree), []api.General{x}, 0, 2, api.ErrTree}, // one
		{list(treeAB), list(treeC), []api.General{x, y, x, mail("a@b"), dn(""), ip("0a000000"), dns("*.a.b")}, 0, 0, api.OK},
		{list(treeAB), nil, []api.General{out, x, y}, 0, 0, api.ErrOut}, {list(treeAB), nil, []api.General{x, out, y}, 1, 0, api.ErrOut}, {list(treeAB), nil, []api.General{x, y, out}, 2, 0, api.ErrOut}, {list(treeAB), nil, []api.General{x, out, out}, 1, 0, api.ErrOut}, // the first, a middle and the last
		{nil, list(treeC, treeAB), []api.General{x, out}, 0, 1, api.ErrWithin}, {nil, list(treeC, treeAB), []api.General{out, x, out}, 1, 1, api.ErrWithin}, {nil, list(treeC, treeMail, treeName, treeXAB), []api.General{y, y, y, x}, 3, 3, api.ErrWithin}, {nil, list(treeXAB, hostTree("y.a.b")), []api.General{out, y, x}, 1, 1, api.ErrWithin},
		{nil, nil, []api.General{no, x}, 0, 0, api.ErrHost}, {nil, nil, []api.General{x, no, x}, 1, 0, api.ErrHost}, {nil, nil, []api.General{x, y, x, {}}, 3, 0, api.ErrHost},
		{list(treeAB), list(treeXAB), []api.General{y, x, out, no}, 1, 0, api.ErrWithin}, {list(treeAB), list(treeXAB), []api.General{y, out, x, no}, 1, 0, api.ErrOut}, {list(treeAB), list(treeXAB), []api.General{y, no, out, x}, 1, 0, api.ErrHost}, {list(treeAB), list(treeC, treeXAB), []api.General{y, y, dns("*.a.b"), out}, 2, 1, api.ErrWithin}, // several that fail
		{list(treeAB, noTree), nil, []api.General{x, no}, 0, 1, api.ErrTree}, {list(treeAB, noTree), nil, []api.General{no, x}, 0, 0, api.ErrHost}, {list(treeAB), list(treeAB, noTree), []api.General{out, x, no}, 0, 2, api.ErrTree}, {list(noTree), list(noTree), []api.General{x, x}, 0, 0, api.ErrTree}, // the first is asked about first
	} {
		rows(t, r.permitted, r.excluded, r.l, r.i, r.place, r.wrong)
	}
}

// P14.4: a name that fails, in each way, at each place of rows of each length.
func TestRowPlaces(t *testing.T) {
	permitted, excluded := list(treeMail, treeAB, treeName), list(treeC, treeNet, treeXAB)
	bad := map[api.General]struct {
		place int
		wrong api.Errno
	}{dns("x.a.b"): {2, api.ErrWithin}, dns("*.a.b"): {2, api.ErrWithin}, ip("0a000001"): {1, api.ErrWithin}, dns("b"): {0, api.ErrOut}, mail("a@c.d"): {0, api.ErrOut}, dn("O=a"): {0, api.ErrOut}, dns(""): {0, api.ErrHost}, {}: {0, api.ErrHost}}
	good := []api.General{dns("y.a.b"), mail("a@x.c.d"), dn("C=DE"), ip("0b000000"), dns("*.y.a.b")}
	for count := 1; count < 40; count++ {
		var l []api.General
		for i := range count {
			l = append(l, good[i%len(good)])
		}
		rows(t, permitted, excluded, l, 0, 0, api.OK)
		for g, want := range bad {
			for at := range count {
				one := slices.Clone(l)
				one[at] = g
				rows(t, permitted, excluded, one, at, want.place, want.wrong)
				one[count-1] = dns("-")
				if at < count-1 {
					rows(t, permitted, excluded, one, at, want.place, want.wrong)
				}
			}
		}
	}
}

// P14.4: drawn rows: the first of which Check has an error, with what it says.
func TestRowDrawn(t *testing.T) {
	var draws probe.Draws
	good, names := near()
	count := map[api.Errno]int{}
	for range 30000 {
		permitted, excluded := drawnTrees(&draws, good, []api.Subtree{noTree, {}}, 4), drawnTrees(&draws, good, []api.Subtree{noTree, {}}, 2)
		var l []api.General
		for range draws.Next() % 5 {
			if draws.Next()%20 == 0 {
				l = append(l, api.General{Kind: 2, Text: "-"})
			} else {
				l = append(l, names[draws.Next()%uint64(len(names))])
			}
		}
		i, place, wrong := 0, 0, api.OK
		for at, g := range l {
			if p, e := checked(permitted, excluded, g); e != api.OK {
				i, place, wrong = at, p, e
				break
			}
		}
		rows(t, permitted, excluded, l, i, place, wrong)
		count[wrong]++
	}
	for _, wrong := range []api.Errno{api.OK, api.ErrHost, api.ErrTree, api.ErrOut, api.ErrWithin} {
		if count[wrong] < 300 {
			t.Errorf("error %d comes only %d times", wrong, count[wrong])
		}
	}
}

// P14.4: rows of each sort of name, each alone as Check says.
func TestRowOfOne(t *testing.T) {
	permitted, excluded := list(treeAB, treeMail, treeName, treeNet), list(treeXAB, mailTree("a@x.c.d"), nameTree("C=DE,O=a"), netTree("0a090000 ffff0000"))
	for _, g := range slices.Concat(goodNames(), badNames()) {
		place, wrong := checked(permitted, excluded, g)
		checks(t, permitted, excluded, g, place, wrong)
		rows(t, permitted, excluded, []api.General{g}, 0, place, wrong)
	}
	if i, at, e := within.Row(permitted, excluded); i != 0 || at != 0 || e != api.OK {
		t.Errorf("of none: %d, %d, error %d", i, at, e)
	}
	rows(t, permitted, excluded, append(slices.Repeat([]api.General{dns("y.a.b")}, 1<<12), dns("x.a.b")), 1<<12, 0, api.ErrWithin)
}
