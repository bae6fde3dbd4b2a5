package within_test

import (
	"slices"
	"testing"

	"chancery/api"
	"chancery/probe"
)

// list is subtrees as a list.
func list(l ...api.Subtree) []api.Subtree { return l }

// Subtrees that tests of rows take; noTree may not be.
var (
	treeAB   = hostTree("a.b")
	treeXAB  = hostTree("x.a.b")
	treeC    = hostTree("c")
	treeMail = mailTree(".c.d")
	treeName = nameTree("C=DE")
	treeNet  = netTree("0a000000 ff000000")
	noTree   = hostTree("-")
)

// P14.3: the chapter's examples.
func TestCheckExamples(t *testing.T) {
	checks(t, list(treeAB), nil, dns("x.c"), 0, api.ErrOut)
	checks(t, list(treeAB), nil, ip("0a000000"), 0, api.OK)
	checks(t, nil, list(treeAB), dns("x.a.b"), 0, api.ErrWithin)
	checks(t, list(treeAB, noTree), nil, dns("a.b"), 1, api.ErrTree)
}

// P14.3: rows of subtrees, of one kind and of several.
func TestCheck(t *testing.T) {
	for _, x := range []struct {
		permitted, excluded []api.Subtree
		g                   api.General
		place               int
		wrong               api.Errno
	}{
		{nil, nil, dns("a.b"), 0, api.OK}, {nil, nil, dns("*.a.b"), 0, api.OK}, {nil, nil, mail("a@c.d"), 0, api.OK}, {nil, nil, dn(""), 0, api.OK}, {nil, nil, ip("0a000000"), 0, api.OK}, // no subtrees at all
		{list(treeAB), nil, dns("a.b"), 0, api.OK}, {list(treeAB), nil, dns("b"), 0, api.ErrOut}, {list(treeC, treeAB), nil, dns("x.a.b"), 0, api.OK}, {list(treeAB, treeC), nil, dns("x.a.b"), 0, api.OK}, {list(treeC, treeXAB), nil, dns("a.b"), 0, api.ErrOut}, {list(treeC, treeC), nil, dns("a.b"), 0, api.ErrOut},
		{list(treeMail, treeName, treeNet), nil, dns("a.b"), 0, api.OK}, {list(treeMail, treeName, treeNet, treeC), nil, dns("a.b"), 0, api.ErrOut}, {list(treeMail, treeName, treeNet, treeC, treeAB), nil, dns("a.b"), 0, api.OK}, {list(treeAB, treeName, treeNet), nil, mail("a@b"), 0, api.OK}, {list(treeAB, treeMail, treeName, treeNet), nil, mail("a@b"), 0, api.ErrOut}, {list(treeAB, treeMail, treeName, treeNet), nil, mail("a@x.c.d"), 0, api.OK}, // of several kinds
		{list(treeName), nil, dn("C=DE,O=a"), 0, api.OK}, {list(treeName), nil, dn("O=a"), 0, api.ErrOut}, {list(treeName), nil, dn(""), 0, api.ErrOut}, {list(nameTree("")), nil, dn(""), 0, api.OK}, {list(treeNet), nil, ip("0a010203"), 0, api.OK}, {list(treeNet), nil, ip("0b000000"), 0, api.ErrOut}, {list(treeNet), nil, ip("0a000000000000000000000000000000"), 0, api.ErrOut},
		{list(treeAB), nil, dns("*.a.b"), 0, api.OK}, {list(treeXAB), nil, dns("*.a.b"), 0, api.ErrOut}, {list(treeXAB, hostTree("y.a.b")), nil, dns("*.a.b"), 0, api.ErrOut}, {list(hostTree("b")), nil, dns("*.a.b"), 0, api.OK}, // wild names: All
		{nil, list(treeAB), dns("b"), 0, api.OK}, {nil, list(treeAB), dns("a.b"), 0, api.ErrWithin}, {nil, list(treeC, treeAB), dns("a.b"), 1, api.ErrWithin}, {nil, list(treeMail, treeName, treeC, treeAB, treeAB), dns("a.b"), 3, api.ErrWithin}, {nil, list(treeAB, treeAB, treeAB), dns("a.b"), 0, api.ErrWithin}, {nil, list(treeC, treeXAB, treeAB), dns("y.a.b"), 2, api.ErrWithin}, {nil, list(treeMail, treeName, treeNet), dns("a.b"), 0, api.OK}, {nil, list(treeName, nameTree("")), dn(""), 1, api.ErrWithin}, {nil, list(netTree("00000000000000000000000000000000 00000000000000000000000000000000"), treeNet), ip("0a000001"), 1, api.ErrWithin}, {nil, list(treeAB, treeC, treeName, treeMail), mail("a@x.c.d"), 3, api.ErrWithin}, // the place of the first
		{nil, list(treeXAB), dns("*.a.b"), 0, api.ErrWithin}, {nil, list(treeC, hostTree("y.x.a.b"), treeXAB, treeAB), dns("*.a.b"), 2, api.ErrWithin}, {nil, list(hostTree("y.x.a.b")), dns("*.a.b"), 0, api.OK}, {nil, list(treeC, hostTree("b")), dns("*.a.b"), 1, api.ErrWithin}, // wild names: Some
		{list(treeAB), list(treeXAB), dns("y.a.b"), 0, api.OK}, {list(treeAB), list(treeXAB), dns("x.a.b"), 0, api.ErrWithin}, {list(treeAB), list(treeXAB), dns("c"), 0, api.ErrOut}, {list(treeAB, treeC, treeC), list(treeC, treeC, treeXAB), dns("x.a.b"), 2, api.ErrWithin}, {list(treeC), list(treeAB), dns("a.b"), 0, api.ErrOut}, {list(treeAB), list(treeAB), dns("a.b"), 0, api.ErrWithin}, {list(treeAB), list(treeXAB), dns("*.a.b"), 0, api.ErrWithin}, {list(treeMail, treeName), list(treeNet, treeAB), dns("a.b"), 1, api.ErrWithin}, // both
	} {
		checks(t, x.permitted, x.excluded, x.g, x.place, x.wrong)
		if at, e := checked(x.permitted, x.excluded, x.g); at != x.place || e != x.wrong {
			t.Errorf("Check(%s; %s; %s): by the chapter's words %d, error %d", showTrees(x.permitted), showTrees(x.excluded), show(x.g), at, e)
		}
	}
}

// P4, P14.3: which error comes first, and its place.
func TestCheckErrors(t *testing.T) {
	for _, bad := range badTrees() {
		if len(bad.Base) > 1000 {
			continue
		}
		for _, g := range []api.General{dns("a.b"), mail("a@x.c.d"), dn("C=DE"), ip("0a000000")} {
			checks(t, list(bad), nil, g, 0, api.ErrTree)
			checks(t, nil, list(bad), g, 0, api.ErrTree)
			checks(t, list(treeAB, bad), nil, g, 1, api.ErrTree)
			checks(t, list(treeAB, bad, bad), list(bad), g, 1, api.ErrTree)
			checks(t, list(treeAB), list(treeAB, bad, treeMail, bad), g, 2, api.ErrTree)
			checks(t, list(treeAB, treeC, treeMail, treeName, treeNet), list(bad), g, 5, api.ErrTree)
			checks(t, nil, list(treeAB, treeMail, treeName, treeNet, bad), g, 4, api.ErrTree) // ahead of ErrWithin
			checks(t, list(treeC, nameTree("O=a"), mailTree("q"), netTree("0b000000 ff000000"), bad), list(treeAB), g, 4, api.ErrTree)
			checks(t, list(treeC, nameTree("O=a"), mailTree("q"), netTree("0b000000 ff000000")), list(treeAB, bad), g, 5, api.ErrTree) // ahead of ErrOut
		}
		checks(t, list(bad), list(bad), dns("-"), 0, api.ErrHost)
	}
	for _, bad := range badNames() {
		checks(t, nil, nil, bad, 0, api.ErrHost)
		checks(t, list(treeAB), nil, bad, 0, api.ErrHost)
		checks(t, list(treeC, treeAB, treeMail, treeName, treeNet), list(treeAB, treeAB), bad, 0, api.ErrHost)
		checks(t, list(treeAB, noTree), list(treeAB, noTree), bad, 0, api.ErrHost)
		checks(t, list(api.Subtree{Kind: bad.Kind, Base: bad.Text}), nil, bad, 0, api.ErrHost)
	}
}

// drawnTrees are at most count subtrees that look like chance; now and then one among them may not be.
func drawnTrees(draws *probe.Draws, good, bad []api.Subtree, count uint64) []api.Subtree {
	var l []api.Subtree
	for range draws.Next() % (count + 1) {
		if draws.Next()%20 == 0 {
			l = append(l, bad[draws.Next()%uint64(len(bad))])
		} else {
			l = append(l, good[draws.Next()%uint64(len(good))])
		}
	}
	return l
}

// near are some subtrees and general names that stand close to each other.
func near() ([]api.Subtree, []api.General) {
	trees := slices.Concat(
		each(hostTree, "a.b", "x.a.b", "b", "c", "y.x.a.b", "a"), each(mailTree, "c.d", ".c.d", "a@c.d", ".d", "x.c.d"),
		each(nameTree, "", "C=DE", "C=DE,O=a", "O=a"), each(netTree, "0a000000 ff000000", "00000000 00000000", "0a090000 ffff0000", "0b000000 ff000000", "20010db8000000000000000000000000 ffffffff000000000000000000000000"),
	)
	names := slices.Concat(
		each(dns, "a.b", "x.a.b", "y.a.b", "b", "c", "*.a.b", "*.x.a.b", "q.b"), each(mail, "a@c.d", "b@c.d", "a@x.c.d", "a@d"),
		each(dn, "", "C=DE", "C=DE,O=A", "O=a", "C=DE,O=a,CN=x"), each(ip, "0a000000", "0a090909", "0b000000", "0c000000", "20010db8000000000000000000000001", "00000000000000000000000000000001"),
	)
	return trees, names
}

// P14.3: drawn rows of subtrees, by the chapter's words.
func TestCheckDrawn(t *testing.T) {
	var draws probe.Draws
	good, names := near()
	bad := []api.Subtree{noTree, {Kind: 3, Base: "a"}, {Kind: 7, Base: "abcdefgh"}, mailTree("."), {Kind: 4, Base: "\x30"}, {}}
	wrongs := []api.General{dns("-"), {}, {Kind: 3, Text: "a"}, mail("a"), {Kind: 7, Text: "abc"}}
	count := map[api.Errno]int{}
	for range 100000 {
		g := names[draws.Next()%uint64(len(names))]
		if draws.Next()%20 == 0 {
			g = wrongs[draws.Next()%uint64(len(wrongs))]
		}
		permitted, excluded := drawnTrees(&draws, good, bad, 5), drawnTrees(&draws, good, bad, 5)
		place, wrong := checked(permitted, excluded, g)
		checks(t, permitted, excluded, g, place, wrong)
		count[wrong]++
	}
	for _, wrong := range []api.Errno{api.OK, api.ErrHost, api.ErrTree, api.ErrOut, api.ErrWithin} {
		if count[wrong] < 1000 {
			t.Errorf("error %d comes only %d times", wrong, count[wrong])
		}
	}
}

// P14.3: many subtrees, of which one at each place takes, or touches, or may not be.
func TestCheckMany(t *testing.T) {
	for _, count := range []int{1, 2, 16, 17, 100} {
		all := slices.Repeat(list(treeC), count)
		for at := range count {
			one := slices.Clone(all)
			one[at] = treeAB
			checks(t, one, nil, dns("*.a.b"), 0, api.OK)
			checks(t, nil, one, dns("*.a.b"), at, api.ErrWithin)
			checks(t, one, one, dns("a.b"), at, api.ErrWithin)
			one[at] = treeXAB
			checks(t, one, nil, dns("*.a.b"), 0, api.ErrOut)
			checks(t, nil, one, dns("*.a.b"), at, api.ErrWithin)
			one[at] = noTree
			checks(t, one, all, dns("*.a.b"), at, api.ErrTree)
			checks(t, all, one, dns("*.a.b"), count+at, api.ErrTree)
			checks(t, one, one, dns("*.a.b"), at, api.ErrTree)
			one[at] = treeMail
			checks(t, one, nil, mail("a@c.d"), 0, api.ErrOut)
			checks(t, one, nil, dn(""), 0, api.OK)
		}
		checks(t, all, nil, dns("a.b"), 0, api.ErrOut)
		checks(t, nil, all, dns("a.b"), 0, api.OK)
	}
	checks(t, slices.Repeat(list(treeC), 1<<16), slices.Repeat(list(treeC), 1<<16), dns("c"), 0, api.ErrWithin)
	checks(t, slices.Repeat(list(treeMail), 1<<16), append(slices.Repeat(list(treeMail), 1<<16), treeAB), dns("a.b"), 1<<16, api.ErrWithin)
}
