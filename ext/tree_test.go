package ext_test

import (
	"slices"
	"strings"
	"testing"

	"chancery/api"
	"chancery/probe"
)

// P15.2, P15.3: subtrees that are written out: permitted, excluded, both, of each Kind.
func TestKnownTrees(t *testing.T) {
	host := func(s ...string) (l []api.Subtree) {
		for _, base := range s {
			l = append(l, api.Subtree{Kind: 2, Base: base})
		}
		return l
	}
	for digits, v := range map[string]api.Trees{
		"30 07 a0 05 30 03 82 01 61":                                                   {Permitted: host("a")},
		"30 07 a1 05 30 03 82 01 61":                                                   {Excluded: host("a")},
		"30 0e a0 05 30 03 82 01 61 a1 05 30 03 82 01 62":                              {Permitted: host("a"), Excluded: host("b")},
		"30 0e a0 05 30 03 82 01 61 a1 05 30 03 82 01 61":                              {Permitted: host("a"), Excluded: host("a")},
		"30 0c a0 0a 30 03 82 01 61 30 03 82 01 61":                                    {Permitted: host("a", "a")},
		"30 0c a1 0a 30 03 82 01 62 30 03 82 01 61":                                    {Excluded: host("b", "a")},
		"30 13 a0 0a 30 03 82 01 62 30 03 82 01 61 a1 05 30 03 82 01 63":               {Permitted: host("b", "a"), Excluded: host("c")},
		"30 09 a0 07 30 05 81 03 61 40 62":                                             {Permitted: []api.Subtree{{Kind: 1, Base: "a@b"}}},
		"30 08 a0 06 30 04 81 02 2e 61":                                                {Permitted: []api.Subtree{{Kind: 1, Base: ".a"}}},
		"30 07 a0 05 30 03 81 01 61":                                                   {Permitted: []api.Subtree{{Kind: 1, Base: "a"}}},
		"30 08 a1 06 30 04 a4 02 30 00":                                                {Excluded: []api.Subtree{{Kind: 4, Base: "\x30\x00"}}},
		"30 15 a0 13 30 11 a4 0f 30 0d 31 0b 30 09 06 03 55 04 06 13 02 44 45":         {Permitted: []api.Subtree{{Kind: 4, Base: "\x30\x0d\x31\x0b\x30\x09\x06\x03\x55\x04\x06\x13\x02DE"}}},
		"30 0e a0 0c 30 0a 87 08 0a 00 00 00 ff 00 00 00":                              {Permitted: []api.Subtree{{Kind: 7, Base: "\x0a\x00\x00\x00\xff\x00\x00\x00"}}},
		"30 26 a1 24 30 22 87 20" + strings.Repeat("00", 32):                           {Excluded: []api.Subtree{{Kind: 7, Base: strings.Repeat("\x00", 32)}}},
		"30 7f a0 7d 30 7b 82 79" + digitsOf(probe.LongHost(121)):                      {Permitted: host(probe.LongHost(121))},
		"30 81 80 a0 7e 30 7c 82 7a" + digitsOf(probe.LongHost(122)):                   {Permitted: host(probe.LongHost(122))},
		"30 81 83 a0 81 80 30 7e 82 7c" + digitsOf(probe.LongHost(124)):                {Permitted: host(probe.LongHost(124))},
		"30 82 01 08 a1 82 01 04 30 82 01 00 82 81 fd" + digitsOf(probe.LongHost(253)): {Excluded: host(probe.LongHost(253))},
	} {
		trees().takes(t, v, raw(digits))
	}
}

// P15.2: subtrees of each sort that may be, and that may not.
func TestTreesSorts(t *testing.T) { trees().sortsOf(t) }

// P15.2, P15.3: as many on each side as may be, one more, none.
func TestTreesCounts(t *testing.T) {
	k := trees()
	a, b := []api.Subtree{{Kind: 2, Base: "a"}}, []api.Subtree{{Kind: 7, Base: strings.Repeat("\x00", 8)}}
	for n := range 20 {
		for m := range 20 {
			v := api.Trees{Permitted: slices.Repeat(a, n), Excluded: slices.Repeat(b, m)}
			may := n <= 16 && m <= 16 && n+m > 0
			if got := k.asWords(t, v); got != may {
				t.Errorf("%d permitted, %d excluded: %t", n, m, got)
			}
			all, err := k.bytes(v)
			if err != nil {
				t.Fatal(err)
			}
			if got := k.AsShould(t, all); got != may {
				t.Errorf("the bytes of %d permitted, %d excluded: %t", n, m, got)
			}
		}
	}
}

// P15.2, P15.3: one that may not be at each place of each side.
func TestTreesThatMayNotBe(t *testing.T) {
	k := trees()
	good := slices.Repeat([]api.Subtree{{Kind: 2, Base: "a"}}, 16)
	for i := range 16 {
		for _, wrong := range []api.Subtree{{Kind: 2, Base: "-"}, {Kind: 2, Base: ".a"}, {Kind: 1, Base: "-"}, {Kind: 7, Base: "abcd"}, {Kind: 4, Base: "a"}, {Kind: 6, Base: "a"}, {}} {
			bad := slices.Clone(good)
			bad[i] = wrong
			for _, v := range []api.Trees{{Permitted: bad}, {Excluded: bad}, {Permitted: bad, Excluded: good}, {Permitted: good, Excluded: bad}, {Permitted: bad[:i+1]}, {Permitted: good[:1], Excluded: bad[:i+1]}} {
				k.refuses(t, v)
				b, _ := k.bytes(v)
				k.None(t, "one that may not be", b)
			}
		}
	}
	for _, tree := range wrongTrees() {
		if tree.Kind < 0 || tree.Kind > 30 {
			continue
		}
		one := probe.Put(byte(0x80+tree.Kind), []byte(tree.Base))
		if tree.Kind == 4 {
			one[0] = 0xa4
		}
		for _, side := range []byte{0xa0, 0xa1} {
			k.None(t, "one that may not be", probe.Put(0x30, probe.Put(side, probe.Put(0x30, one))))
			k.None(t, "one that may not be, behind", probe.Put(0x30, probe.Put(side, raw("30 03 82 01 61"), probe.Put(0x30, one))))
			k.None(t, "one that may not be, ahead", probe.Put(0x30, probe.Put(side, probe.Put(0x30, one), raw("30 03 82 01 61"))))
		}
	}
}

// P15.3: each tag of each element, with a Base of each kind.
func TestToTreesTags(t *testing.T) {
	k := trees()
	sides, inner := map[int]int{}, map[int]int{}
	for tag := range 256 {
		x := byte(tag)
		if k.AsShould(t, probe.Put(0x30, probe.Put(x, raw("30 03 82 01 61")))) {
			sides[tag]++
		}
		k.AsShould(t, probe.Put(x, probe.Put(0xa0, raw("30 03 82 01 61"))))
		k.AsShould(t, probe.Put(0x30, probe.Put(0xa0, probe.Put(x, raw("82 01 61")))))
		k.AsShould(t, probe.Put(0x30, probe.Put(0xa0, raw("30 03 82 01 61")), probe.Put(x, raw("30 03 82 01 61"))))
		for _, base := range []string{"a", ".a", "a@b", "*.a.b", "abcd", "\x30\x00", strings.Repeat("\x00", 8), strings.Repeat("\x00", 32), strings.Repeat("\x00", 16), ""} {
			if k.AsShould(t, probe.Put(0x30, probe.Put(0xa1, probe.Put(0x30, probe.Put(x, []byte(base)))))) {
				inner[tag]++
			}
		}
	}
	if len(sides) != 2 || sides[0xa0] != 1 || sides[0xa1] != 1 || len(inner) != 4 || inner[0x81] != 4 || inner[0x82] != 2 || inner[0x87] != 2 || inner[0xa4] != 1 {
		t.Errorf("tags, and how many are taken of each: %v, %v", sides, inner)
	}
}

// P15.3: bytes that are none, written out.
func TestNoTrees(t *testing.T) {
	for digits, what := range map[string]string{
		"":                                 "no byte",
		"30":                               "no length",
		"30 00":                            "both missing",
		"30 02 a0 00":                      "nothing permitted, but written",
		"30 02 a1 00":                      "nothing excluded, but written",
		"30 04 a0 00 a1 00":                "nothing, but written",
		"30 09 a0 05 30 03 82 01 61 a1 00": "nothing excluded, but written",
		"30 09 a0 00 a1 05 30 03 82 01 61": "nothing permitted, but written",
		"30 0e a1 05 30 03 82 01 62 a0 05 30 03 82 01 61":                      "another order",
		"30 0e a0 05 30 03 82 01 61 a0 05 30 03 82 01 62":                      "permitted twice",
		"30 0e a1 05 30 03 82 01 61 a1 05 30 03 82 01 62":                      "excluded twice",
		"30 15 a0 05 30 03 82 01 61 a1 05 30 03 82 01 62 a1 05 30 03 82 01 62": "excluded twice",
		"30 07 a2 05 30 03 82 01 61":                                           "another tag",
		"30 07 80 05 30 03 82 01 61":                                           "another tag",
		"30 07 30 05 30 03 82 01 61":                                           "another tag",
		"31 07 a0 05 30 03 82 01 61":                                           "another tag",
		"30 07 a0 05 31 03 82 01 61":                                           "another tag of a subtree",
		"30 05 a0 03 82 01 61":                                                 "no element around a subtree",
		"30 09 a0 07 30 05 30 03 82 01 61":                                     "an element too many around a subtree",
		"30 04 a0 02 30 00":                                                    "a subtree without a name",
		"30 0a a0 08 30 06 82 01 61 82 01 62":                                  "a subtree of two names",
		"30 0a a0 08 30 06 82 01 61 80 01 00":                                  "a subtree with a least depth",
		"30 0a a0 08 30 06 82 01 61 81 01 00":                                  "a subtree with a greatest depth",
		"30 09 a0 07 30 05 82 01 61 05 00":                                     "an element more in a subtree",
		"30 09 a0 07 30 05 05 00 82 01 61":                                     "an element more in a subtree, ahead",
		"30 08 a0 06 30 04 82 01 61 00":                                        "a byte more in a subtree",
		"30 08 a0 06 30 03 82 01 61 00":                                        "a byte more behind a subtree",
		"30 09 a0 07 30 03 82 01 61 05 00":                                     "an element more behind a subtree",
		"30 08 a0 05 30 03 82 01 61 00":                                        "a byte more inside",
		"30 09 a0 05 30 03 82 01 61 05 00":                                     "an element more inside",
		"30 09 05 00 a0 05 30 03 82 01 61":                                     "an element more ahead",
		"30 07 a0 05 30 03 82 01 61 00":                                        "a byte more",
		"30 07 a0 05 30 03 82 01":                                              "a byte fewer",
		"30 06 a0 04 30 02 82 01":                                              "a byte fewer inside",
		"30 07 a0 05 30 03 83 01 61":                                           "another tag of a name",
		"30 07 a0 05 30 03 a2 01 61":                                           "another tag of a name",
		"30 08 a0 06 30 04 84 02 30 00":                                        "another tag of a name",
		"30 0a a0 08 30 06 87 04 0a 00 00 ff":                                  "an address without a mask",
		"30 0b a0 09 30 07 82 05 2a 2e 61 2e 62":                               "a wild name",
		"30 08 a0 06 30 04 82 02 2e 61":                                        "a host's name with a dot ahead",
		"30 07 a0 05 30 03 82 01 2d":                                           "no host's name",
		"30 0e a0 0c 30 0a 87 08 0a 00 00 01 ff 00 00 00":                      "an address with bits behind its mask",
		"30 81 07 a0 05 30 03 82 01 61":                                        "a length not the shortest",
		"30 08 a0 81 05 30 03 82 01 61":                                        "a length not the shortest",
		"30 08 a0 06 30 81 03 82 01 61":                                        "a length not the shortest",
		"30 08 a0 06 30 04 82 81 01 61":                                        "a length not the shortest",
		"a0 05 30 03 82 01 61":                                                 "what is permitted alone",
		"30 03 82 01 61":                                                       "a subtree alone",
		"30 09 30 07 a0 05 30 03 82 01 61":                                     "an element too many around it",
	} {
		trees().None(t, what, raw(digits))
	}
}

// P15.3: all short rows of bytes in the places of what is permitted, of a subtree and of its name.
func TestToTreesOfFew(t *testing.T) {
	k := trees()
	taken := 0
	for b := range probe.Short([]byte{0x00, 0x01, 0x02, 0x30, 0x61, 0x82, 0xa0, 0xa4}, 4) {
		for _, c := range [][]byte{probe.Put(0x30, b), probe.Put(0x30, probe.Put(0xa0, b)), probe.Put(0x30, probe.Put(0xa1, probe.Put(0x30, b))), probe.Put(0x30, probe.Put(0xa0, probe.Put(0x30, b)), probe.Put(0xa1, raw("30 03 82 01 61"))), probe.Put(0x30, probe.Put(0xa0, raw("30 03 82 01 61"), b))} {
			if k.AsShould(t, c) {
				taken++
			}
		}
	}
	if taken < 5 {
		t.Errorf("only %d are taken", taken)
	}
}
