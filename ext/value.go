package ext

import (
	"slices"

	"chancery/api"
	"chancery/der"
	"chancery/host"
	"chancery/num"
	"chancery/within"
)

const (
	maxNumber = 127 // the greatest Id, and the greatest purpose: their arcs have one byte
	maxUsage  = 8
	maxReason = 10
	noReason  = 7  // a number that no reason has
	noPath    = -1 // where none is said
)

// tags are those of general names, by their kinds; a number that is no kind has none.
var tags = [...]int{api.GEmail: 0x81, api.GDNS: 0x82, api.GName: 0xa4, api.GIP: 0x87}

// kindOf is the kind that has a tag; 0, which is none, if none has.
func kindOf(tag int) int {
	for kind, t := range tags {
		if t == tag {
			return kind // 0 of the tag 0, too
		}
	}
	return 0
}

func hasId(id int) func(api.Ext) bool {
	return func(x api.Ext) bool { return x.Id == id }
}

func writeExts(l []api.Ext) []byte {
	must(0 < len(l) && len(l) <= api.MaxExts)
	for i, x := range l {
		_, twice := first(l[:i], hasId(x.Id))
		must(!twice)
	}
	return putEach(sequenceTag, l, writeExt)
}

func readExts(b []byte) []api.Ext { return readEach(inside(b), api.MaxExts, readExt) }

func writeExt(x api.Ext) []byte {
	must(0 <= x.Id && x.Id <= maxNumber && len(x.Value) <= api.MaxExtValue)
	return put(sequenceTag, putObject(2, 5, 29, x.Id), putTrue(x.Critical), put(octetsTag, x.Value))
}

func readExt(outer api.Element) api.Ext {
	var v api.Ext
	for _, x := range der.Each(outer.Content) {
		switch x.Tag {
		case objectTag:
			v.Id = lastArc(x.Content)
		case booleanTag:
			v.Critical = true
		case octetsTag:
			v.Value = x.Content
		}
	}
	return v
}

func writeBasic(v api.Basic) []byte {
	must(v.Path == noPath || v.CA && 0 <= v.Path && v.Path <= api.MaxPath)
	var path []byte
	if v.Path != noPath {
		path = putInteger(integerTag, v.Path)
	}
	return put(sequenceTag, putTrue(v.CA), path)
}

func readBasic(b []byte) api.Basic {
	v := api.Basic{Path: noPath}
	for _, x := range der.Each(inside(b)) {
		switch x.Tag {
		case booleanTag:
			v.CA = true
		case integerTag:
			v.Path = integer(x.Content)
		}
	}
	return v
}

func writeUsage(set uint16) []byte {
	must(0 < set && set < 1<<(maxUsage+1))
	return put(bitsTag, num.Flags(set))
}

func readUsage(b []byte) uint16 {
	set, _ := num.ToFlags(inside(b))
	return set
}

func writePurposes(l []int) []byte {
	must(0 < len(l) && len(l) <= api.MaxNames)
	for i, n := range l {
		must(!slices.Contains(l[:i], n))
	}
	return putEach(sequenceTag, l, writePurpose)
}

func readPurposes(b []byte) []int { return readEach(inside(b), api.MaxNames, readPurpose) }

func writePurpose(n int) []byte {
	must(1 <= n && n <= maxNumber)
	return putObject(1, 3, 6, 1, 5, 5, 7, 3, n)
}

func readPurpose(x api.Element) int { return lastArc(x.Content) }

func writeNames(l []api.General) []byte {
	must(0 < len(l) && len(l) <= api.MaxNames)
	return putEach(sequenceTag, l, writeName)
}

func readNames(b []byte) []api.General { return readEach(inside(b), api.MaxNames, readName) }

func writeName(g api.General) []byte {
	must(host.May(g))
	return put(tags[g.Kind], []byte(g.Text))
}

func readName(x api.Element) api.General {
	return api.General{Kind: kindOf(x.Tag), Text: string(x.Content)}
}

func writeTrees(t api.Trees) []byte {
	must(len(t.Permitted) > 0 || len(t.Excluded) > 0)
	return put(sequenceTag, writeSide(permittedTag, t.Permitted), writeSide(excludedTag, t.Excluded))
}

func readTrees(b []byte) api.Trees {
	var t api.Trees
	for _, x := range der.Each(inside(b)) {
		switch x.Tag {
		case permittedTag:
			t.Permitted = readEach(x.Content, api.MaxNames, readTree)
		case excludedTag:
			t.Excluded = readEach(x.Content, api.MaxNames, readTree)
		}
	}
	return t
}

// writeSide is the bytes of the subtrees that are permitted, or of those that are excluded; of none there are none.
func writeSide(tag int, l []api.Subtree) []byte {
	must(len(l) <= api.MaxNames)
	if len(l) == 0 {
		return nil
	}
	return putEach(tag, l, writeTree)
}

func writeTree(t api.Subtree) []byte {
	must(within.May(t))
	return put(sequenceTag, put(tags[t.Kind], []byte(t.Base)))
}

func readTree(outer api.Element) api.Subtree {
	x, _ := der.One(outer.Content)
	return api.Subtree{Kind: kindOf(x.Tag), Base: string(x.Content)}
}

func readSubject(b []byte) (k api.KeyId) {
	copy(k[:], inside(b))
	return k
}

func readIssuer(b []byte) api.KeyId { return readSubject(inside(b)) }

func writeNumber(n int) []byte {
	must(n >= 0)
	return putInteger(integerTag, n)
}

func writeReason(n int) []byte {
	must(0 <= n && n <= maxReason && n != noReason)
	return putInteger(enumeratedTag, n)
}

func readInteger(b []byte) int { return integer(inside(b)) }
