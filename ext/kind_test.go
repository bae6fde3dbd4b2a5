package ext_test

import (
	"crypto/x509/pkix"
	"encoding/asn1"
	"errors"
	"math"
	"slices"
	"strings"

	"chancery/api"
	"chancery/ext"
	"chancery/host"
	"chancery/name"
	"chancery/probe"
	"chancery/within"
)

// errKind is where the library has read an element of a name that is no kind's.
var errKind = errors.New("no kind's")

// plain tells whether two values without lists are the same.
func plain[T comparable](a, b T) bool { return a == b }

// list is a list's own: how lists of what has no list in it are copied, and written over.
func list[T comparable](k kind[[]T], spare T) kind[[]T] {
	k.same = slices.Equal[[]T]
	k.roomy = func(l []T) ([]T, func() bool) {
		part, whole := probe.RoomyWith(l, spare)
		was := slices.Clone(whole)
		return part, func() bool { return slices.Equal(whole, was) }
	}
	k.scribble = func(l []T) { probe.Scribble(l, spare) }
	return k
}

// single is of a value without lists: there is nothing to copy.
func single[T comparable](k kind[T]) kind[T] {
	k.same = plain[T]
	k.roomy = func(v T) (T, func() bool) { return v, func() bool { return true } }
	k.scribble = func(T) {}
	return k
}

func exts() kind[[]api.Ext] {
	return kind[[]api.Ext]{
		what:     "extensions",
		write:    ext.Encode,
		read:     ext.Decode,
		same:     probe.SameExts,
		roomy:    probe.RoomyExts,
		scribble: probe.ScribbleExts,
		may: func(l []api.Ext) bool {
			ids := map[int]int{}
			for _, x := range l {
				ids[x.Id]++
				if x.Id < 0 || x.Id > 127 || len(x.Value) > 65536 || ids[x.Id] > 1 {
					return false
				}
			}
			return len(l) >= 1 && len(l) <= 16
		},
		bytes: func(l []api.Ext) ([]byte, error) {
			var rows []pkix.Extension
			for _, x := range l {
				rows = append(rows, pkix.Extension{Id: asn1.ObjectIdentifier{2, 5, 29, x.Id}, Critical: x.Critical, Value: x.Value})
			}
			return asn1.Marshal(rows)
		},
		parse: func(b []byte) ([]api.Ext, error) {
			var rows []pkix.Extension
			if _, err := asn1.Unmarshal(b, &rows); err != nil {
				return nil, err
			}
			var l []api.Ext
			for _, x := range rows {
				l = append(l, api.Ext{Id: x.Id[len(x.Id)-1], Critical: x.Critical, Value: x.Value})
			}
			return l, nil
		},
		goods:  goodExts(),
		wrongs: wrongExts(),
	}
}

// lengths of Values: those that take one, two, three and four bytes to say, alone and of the elements around.
func lengths() []int {
	return []int{0, 1, 2, 20, 112, 113, 114, 115, 116, 117, 118, 119, 120, 125, 126, 127, 128, 129, 130, 235, 236, 237, 238, 239, 240, 241, 242, 243, 244, 245, 246, 247, 253, 254, 255, 256, 257, 1000, 65515, 65516, 65517, 65518, 65519, 65520, 65521, 65522, 65523, 65534, 65535, 65536}
}

func goodExts() [][]api.Ext {
	l := [][]api.Ext{
		{{Id: 19, Critical: true, Value: []byte{0x30, 0}}},
		{{Id: 19, Value: []byte{0x30, 0}}},
		{{Id: 0}}, {{Id: 0, Critical: true}}, {{Id: 127}}, {{Id: 127, Critical: true, Value: []byte{1}}}, {{Id: 1, Value: []byte{0}}}, {{Id: 64, Value: []byte("\xff\x00")}},
		{{Id: 15, Critical: true, Value: raw("03 02 02 84")}, {Id: 19, Critical: true, Value: raw("30 00")}, {Id: 14, Value: raw("04 00")}},
		{{Id: 127}, {Id: 0}}, {{Id: 0}, {Id: 127}}, {{Id: 3, Value: []byte("same")}, {Id: 2, Value: []byte("same")}},
		{{Id: 29, Value: raw("06 03 55 1d 1d 01 01 ff 04 00")}}, // what looks like parts of an extension
	}
	for n := 1; n <= 16; n++ {
		l = append(l, probe.ExtRow(n))
	}
	return l
}

func wrongExts() [][]api.Ext {
	l := [][]api.Ext{nil, {}, probe.ExtRow(17), probe.ExtRow(18), probe.ExtRow(32), probe.ExtRow(128)}
	for _, id := range []int{-1, 128, 129, 255, 256, -128, 256 + 19, 1<<16 + 19, 1<<31 + 19, 1<<32 + 19, -(1 << 32), math.MaxInt, math.MinInt, math.MinInt + 19} {
		l = append(l, []api.Ext{{Id: id}}, []api.Ext{{Id: id, Critical: true, Value: []byte{1}}}, append(probe.ExtRow(3), api.Ext{Id: id}), append([]api.Ext{{Id: id}}, probe.ExtRow(15)...))
	}
	return append(l, []api.Ext{{Id: 19}, {Id: 19}}, []api.Ext{{Id: 19, Critical: true}, {Id: 19, Value: []byte{1}}}, []api.Ext{{Id: 0}, {Id: 5}, {Id: 0}}, []api.Ext{{Id: 19, Value: make([]byte, 65537)}}, append(probe.ExtRow(2), api.Ext{Id: 1, Value: make([]byte, 1<<17)}))
}

func basics() kind[api.Basic] {
	type form struct {
		CA   bool `asn1:"optional"`
		Path int  `asn1:"optional,default:-1"`
	}
	k := kind[api.Basic]{
		what:  "Basic",
		write: ext.Basic,
		read:  ext.ToBasic,
		may: func(v api.Basic) bool {
			if !v.CA {
				return v.Path == -1
			}
			return v.Path >= -1 && v.Path <= 100
		},
		bytes: func(v api.Basic) ([]byte, error) { return asn1.Marshal(form{v.CA, v.Path}) },
		parse: func(b []byte) (api.Basic, error) {
			v := form{Path: -1}
			_, err := asn1.Unmarshal(b, &v)
			return api.Basic{CA: v.CA, Path: v.Path}, err
		},
		goods: []api.Basic{{Path: -1}},
	}
	for path := -1; path <= 100; path++ {
		k.goods = append(k.goods, api.Basic{CA: true, Path: path})
		if path >= 0 {
			k.wrongs = append(k.wrongs, api.Basic{Path: path})
		}
	}
	for _, path := range []int{-2, -3, -128, -129, -256, 101, 102, 127, 128, 255, 256, 256 + 5, 1<<16 + 5, 1<<32 + 5, 1<<32 - 1, -1 << 32, math.MaxInt, math.MinInt, math.MinInt + 5} {
		k.wrongs = append(k.wrongs, api.Basic{CA: true, Path: path}, api.Basic{Path: path})
	}
	return single(k)
}

func usages() kind[uint16] {
	k := kind[uint16]{
		what:  "Usage",
		write: ext.Usage,
		read:  ext.ToUsage,
		may:   func(set uint16) bool { return set >= 1 && set <= 511 },
		bytes: func(set uint16) ([]byte, error) {
			bits := asn1.BitString{}
			for i := range 16 {
				if set>>i&1 == 1 {
					bits.BitLength = i + 1
				}
			}
			bits.Bytes = make([]byte, (bits.BitLength+7)/8)
			for i := range bits.BitLength {
				if set>>i&1 == 1 {
					bits.Bytes[i/8] |= 0x80 >> (i % 8)
				}
			}
			return asn1.Marshal(bits)
		},
		parse: func(b []byte) (uint16, error) {
			var bits asn1.BitString
			_, err := asn1.Unmarshal(b, &bits)
			set := uint16(0)
			for i := range 16 {
				set |= uint16(bits.At(i)) << i
			}
			return set, err
		},
	}
	for i := range 9 {
		k.goods = append(k.goods, 1<<i, 1<<i|1, 1<<i-1|1)
	}
	k.goods = append(k.goods, 511, 510, 255, 257, 1<<5|1<<6)
	k.wrongs = []uint16{0, 512, 513, 1023, 1024, 1 << 15, 65535, 65024, 32767}
	return single(k)
}

func purposes() kind[[]int] {
	k := kind[[]int]{
		what:  "Purposes",
		write: func(l []int) ([]byte, api.Errno) { return ext.Purposes(l...) },
		read:  ext.ToPurposes,
		may: func(l []int) bool {
			sorted := slices.Sorted(slices.Values(l))
			return len(l) >= 1 && len(l) <= 16 && sorted[0] >= 1 && sorted[len(l)-1] <= 127 && len(slices.Compact(sorted)) == len(l)
		},
		bytes: func(l []int) ([]byte, error) {
			var ids []asn1.ObjectIdentifier
			for _, n := range l {
				ids = append(ids, asn1.ObjectIdentifier{1, 3, 6, 1, 5, 5, 7, 3, n})
			}
			return asn1.Marshal(ids)
		},
		parse: func(b []byte) ([]int, error) {
			var ids []asn1.ObjectIdentifier
			if _, err := asn1.Unmarshal(b, &ids); err != nil {
				return nil, err
			}
			var l []int
			for _, id := range ids {
				l = append(l, id[len(id)-1])
			}
			return l, nil
		},
		goods: [][]int{{1, 2}, {2, 1}, {127, 1}, {1, 127, 64}, {9, 8, 7, 6, 5, 4, 3, 2, 1}},
		wrongs: [][]int{
			nil, {}, {0}, {-1}, {128}, {1, 0}, {0, 1}, {1, 128}, {127, 128, 3}, {1, 1}, {1, 2, 1}, {2, 1, 1}, {1, 2, 3, 4, 5, 6, 7, 8, 9, 10, 11, 12, 13, 14, 15, 1},
			{255}, {256}, {256 + 1}, {1<<16 + 1}, {1<<31 - 1}, {1 << 31}, {1<<32 + 1}, {1<<32 - 1}, {-127}, {-256 + 1}, {math.MaxInt}, {math.MinInt}, {math.MinInt + 1},
			slices.Repeat([]int{5}, 16), slices.Repeat([]int{5}, 17), slices.Repeat([]int{5}, 1<<16),
		},
	}
	var l []int
	for n := 1; n <= 127; n++ {
		l = append(l, n)
		k.goods = append(k.goods, []int{n})
		if n <= 16 {
			k.goods = append(k.goods, slices.Clone(l))
		} else {
			k.goods = append(k.goods, l[n-16:n:n])
			k.wrongs = append(k.wrongs, slices.Clone(l))
		}
	}
	return list(k, 99)
}

// nameBytes are the bytes of a name by its text.
func nameBytes(s string) string {
	n, e1 := name.Parse(s)
	b, e2 := name.Encode(n)
	if e1 != api.OK || e2 != api.OK {
		panic("no name: " + s)
	}
	return string(b)
}

// nameTexts are names' texts of each sort.
func nameTexts() []string {
	return []string{"", "C=DE", `C=DE,O=a\, b`, "CN=\u00e9", "CN=a@b", strings.Repeat(",CN=a", 16)[1:], strings.Repeat(",O="+strings.Repeat("_", 64), 16)[1:]}
}

// noNames are bytes that are no name's.
func noNames() []string {
	return []string{"", "\x30", "\x31\x00", "\x30\x01", "\x30\x00\x00", "\x30\x81\x00", "a", "a.b", "C=DE", "\x00", nameBytes("C=DE") + "\x00", nameBytes("C=DE")[1:], strings.Replace(nameBytes("C=DE"), "DE", "de", 1)}
}

// goodNames are general names of each sort that may be.
func goodNames() []api.General {
	l := []api.General{
		{Kind: 1, Text: "a@b"}, {Kind: 1, Text: "a.b@c.d"}, {Kind: 1, Text: "A_b+1.-@C.d-e"}, {Kind: 1, Text: strings.Repeat("z", 64) + "@" + probe.LongHost(253)},
		{Kind: 2, Text: "a"}, {Kind: 2, Text: "a.b"}, {Kind: 2, Text: "Www.Example.COM"}, {Kind: 2, Text: "*.a.b"}, {Kind: 2, Text: "1.2.3.4x"}, {Kind: 2, Text: "*." + probe.LongHost(251)},
		{Kind: 7, Text: "\x0a\x00\x00\xff"}, {Kind: 7, Text: "abcd"}, {Kind: 7, Text: "\x00\x00\x00\x00"}, {Kind: 7, Text: strings.Repeat("\xff", 16)}, {Kind: 7, Text: strings.Repeat("\x00", 15) + "\x01"},
	}
	for _, n := range []int{119, 120, 121, 122, 123, 124, 125, 126, 127, 128, 129, 245, 246, 247, 248, 249, 250, 251, 252, 253} {
		l = append(l, api.General{Kind: 2, Text: probe.LongHost(n)})
	}
	for _, s := range nameTexts() {
		l = append(l, api.General{Kind: 4, Text: nameBytes(s)})
	}
	return l
}

// wrongNames are general names of each sort that may not be.
func wrongNames() []api.General {
	l := []api.General{
		{}, {Kind: 1}, {Kind: 1, Text: "a"}, {Kind: 1, Text: "a.b"}, {Kind: 1, Text: ".a.b"}, {Kind: 1, Text: "@a"}, {Kind: 1, Text: "a@"}, {Kind: 1, Text: "a@*.b.c"}, {Kind: 1, Text: "a@b\xff"}, {Kind: 1, Text: "\x30\x00"},
		{Kind: 2}, {Kind: 2, Text: "a@b"}, {Kind: 2, Text: "*.a"}, {Kind: 2, Text: "."}, {Kind: 2, Text: ".a.b"}, {Kind: 2, Text: "a.1"}, {Kind: 2, Text: "a..b"}, {Kind: 2, Text: "a b"}, {Kind: 2, Text: "\x80"}, {Kind: 2, Text: probe.LongHost(254)}, {Kind: 2, Text: strings.Repeat("a", 1<<17)},
		{Kind: 7}, {Kind: 7, Text: "abc"}, {Kind: 7, Text: "abcde"}, {Kind: 7, Text: "\x0a\x00\x00\x00\xff\x00\x00\x00"}, {Kind: 7, Text: strings.Repeat("a", 15)}, {Kind: 7, Text: strings.Repeat("a", 17)}, {Kind: 7, Text: strings.Repeat("\x00", 32)}, {Kind: 7, Text: "10.0.0.1"},
	}
	for _, s := range noNames() {
		l = append(l, api.General{Kind: 4, Text: s})
	}
	for _, k := range probe.NoKinds() {
		l = append(l, api.General{Kind: k}, api.General{Kind: k, Text: "a.b"}, api.General{Kind: k, Text: "a@b"}, api.General{Kind: k, Text: "\x30\x00"}, api.General{Kind: k, Text: "abcd"})
	}
	return l
}

// toRaw is what the library writes of a name of a kind that may be.
func toRaw(kind int, text string) asn1.RawValue {
	return asn1.RawValue{Class: asn1.ClassContextSpecific, Tag: kind, IsCompound: kind == 4, Bytes: []byte(text)}
}

// ofRaw is the kind and the text that the library has read.
func ofRaw(x asn1.RawValue) (int, string, error) {
	if x.Class != asn1.ClassContextSpecific {
		return 0, "", errKind
	}
	return x.Tag, string(x.Bytes), nil
}

func names() kind[[]api.General] {
	k := kind[[]api.General]{
		what:  "Names",
		write: func(l []api.General) ([]byte, api.Errno) { return ext.Names(l...) },
		read:  ext.ToNames,
		may: func(l []api.General) bool {
			return len(l) >= 1 && len(l) <= 16 && !slices.ContainsFunc(l, func(g api.General) bool { return !host.May(g) })
		},
		bytes: func(l []api.General) ([]byte, error) {
			var all []asn1.RawValue
			for _, g := range l {
				all = append(all, toRaw(g.Kind, g.Text))
			}
			return asn1.Marshal(all)
		},
		parse: func(b []byte) ([]api.General, error) {
			var all []asn1.RawValue
			_, err := asn1.Unmarshal(b, &all)
			var l []api.General
			for _, x := range all {
				kind, text, wrong := ofRaw(x)
				l, err = append(l, api.General{Kind: kind, Text: text}), errors.Join(err, wrong)
			}
			return l, err
		},
		wrongs: [][]api.General{nil, {}, slices.Repeat([]api.General{{Kind: 2, Text: "a"}}, 17), slices.Repeat([]api.General{{Kind: 7, Text: "abcd"}}, 1<<16)},
	}
	all := goodNames()
	for i, g := range all {
		k.goods = append(k.goods, []api.General{g}, []api.General{g, all[(i*7+3)%len(all)]}, []api.General{all[(i*5+1)%len(all)], g, g})
	}
	for n := 3; n <= 16; n++ {
		k.goods = append(k.goods, all[n:2*n:2*n], slices.Repeat(all[n:n+1], n))
	}
	k.wrongs = append(k.wrongs, all[:17], all)
	for _, g := range wrongNames() {
		k.wrongs = append(k.wrongs, []api.General{g}, []api.General{all[4], g}, []api.General{g, all[4]}, append(all[:15:15], g))
	}
	return list(k, api.General{Kind: 2, Text: "spare"})
}

// goodTrees are subtrees of each sort that may be.
func goodTrees() []api.Subtree {
	l := []api.Subtree{
		{Kind: 1, Base: "a@b"}, {Kind: 1, Base: "a.b"}, {Kind: 1, Base: ".a.b"}, {Kind: 1, Base: ".a"}, {Kind: 1, Base: strings.Repeat("z", 64) + "@" + probe.LongHost(253)},
		{Kind: 2, Base: "a"}, {Kind: 2, Base: "a.b"}, {Kind: 2, Base: "Www.Example.COM"},
		{Kind: 7, Base: "\x0a\x00\x00\x00\xff\x00\x00\x00"}, {Kind: 7, Base: strings.Repeat("\x00", 8)}, {Kind: 7, Base: strings.Repeat("\xff", 8)}, {Kind: 7, Base: strings.Repeat("\x00", 32)}, {Kind: 7, Base: strings.Repeat("\xff", 32)}, {Kind: 7, Base: "abcd\xff\xff\xff\xff"},
	}
	for _, n := range []int{115, 116, 117, 118, 119, 120, 121, 122, 123, 124, 125, 126, 127, 128, 129, 241, 242, 243, 244, 245, 246, 247, 248, 249, 250, 251, 252, 253} {
		l = append(l, api.Subtree{Kind: 2, Base: probe.LongHost(n)})
	}
	for _, s := range nameTexts() {
		l = append(l, api.Subtree{Kind: 4, Base: nameBytes(s)})
	}
	return l
}

// wrongTrees are subtrees of each sort that may not be.
func wrongTrees() []api.Subtree {
	l := []api.Subtree{
		{}, {Kind: 1}, {Kind: 1, Base: "."}, {Kind: 1, Base: "..a"}, {Kind: 1, Base: "a@"}, {Kind: 1, Base: "@a"}, {Kind: 1, Base: "*.a.b"}, {Kind: 1, Base: "a@.b"}, {Kind: 1, Base: "\x30\x00"},
		{Kind: 2}, {Kind: 2, Base: ".a.b"}, {Kind: 2, Base: "*.a.b"}, {Kind: 2, Base: "a@b"}, {Kind: 2, Base: "-"}, {Kind: 2, Base: "a.1"}, {Kind: 2, Base: probe.LongHost(254)}, {Kind: 2, Base: strings.Repeat("a", 1<<17)},
		{Kind: 7}, {Kind: 7, Base: "abcd"}, {Kind: 7, Base: strings.Repeat("\xff", 16)}, {Kind: 7, Base: strings.Repeat("\x00", 7)}, {Kind: 7, Base: strings.Repeat("\x00", 9)}, {Kind: 7, Base: strings.Repeat("\x00", 31)}, {Kind: 7, Base: strings.Repeat("\x00", 33)}, {Kind: 7, Base: "\x0a\x00\x00\x01\xff\x00\x00\x00"}, {Kind: 7, Base: "\x00\x00\x00\x00\xff\x00\xff\x00"},
	}
	for _, s := range noNames() {
		l = append(l, api.Subtree{Kind: 4, Base: s})
	}
	for _, k := range probe.NoKinds() {
		l = append(l, api.Subtree{Kind: k}, api.Subtree{Kind: k, Base: "a.b"}, api.Subtree{Kind: k, Base: "\x30\x00"}, api.Subtree{Kind: k, Base: strings.Repeat("\x00", 8)})
	}
	return l
}

func sameTrees(a, b api.Trees) bool {
	return slices.Equal(a.Permitted, b.Permitted) && slices.Equal(a.Excluded, b.Excluded)
}

func roomyTrees(t api.Trees) (api.Trees, func() bool) {
	spare := api.Subtree{Kind: 2, Base: "spare"}
	permitted, one := probe.RoomyWith(t.Permitted, spare)
	excluded, two := probe.RoomyWith(t.Excluded, spare)
	wasOne, wasTwo := slices.Clone(one), slices.Clone(two)
	return api.Trees{Permitted: permitted, Excluded: excluded}, func() bool { return slices.Equal(one, wasOne) && slices.Equal(two, wasTwo) }
}

func scribbleTrees(t api.Trees) {
	probe.Scribble(t.Permitted, api.Subtree{Kind: 2, Base: "scribbled"})
	probe.Scribble(t.Excluded, api.Subtree{Kind: 2, Base: "scribbled"})
}

func trees() kind[api.Trees] {
	type subtree struct{ Base asn1.RawValue }
	type form struct {
		Permitted []subtree `asn1:"optional,omitempty,tag:0"`
		Excluded  []subtree `asn1:"optional,omitempty,tag:1"`
	}
	toForm := func(l []api.Subtree) (all []subtree) {
		for _, t := range l {
			all = append(all, subtree{toRaw(t.Kind, t.Base)})
		}
		return all
	}
	ofForm := func(all []subtree) (l []api.Subtree, err error) {
		for _, x := range all {
			kind, base, wrong := ofRaw(x.Base)
			l, err = append(l, api.Subtree{Kind: kind, Base: base}), errors.Join(err, wrong)
		}
		return l, err
	}
	mayNot := func(t api.Subtree) bool { return !within.May(t) }
	k := kind[api.Trees]{
		what:     "Trees",
		write:    ext.Trees,
		read:     ext.ToTrees,
		same:     sameTrees,
		roomy:    roomyTrees,
		scribble: scribbleTrees,
		may: func(t api.Trees) bool {
			p, x := t.Permitted, t.Excluded
			return len(p) <= 16 && len(x) <= 16 && len(p)+len(x) >= 1 && !slices.ContainsFunc(p, mayNot) && !slices.ContainsFunc(x, mayNot)
		},
		bytes: func(t api.Trees) ([]byte, error) {
			return asn1.Marshal(form{toForm(t.Permitted), toForm(t.Excluded)})
		},
		parse: func(b []byte) (t api.Trees, err error) {
			var v form
			_, err1 := asn1.Unmarshal(b, &v)
			permitted, err2 := ofForm(v.Permitted)
			excluded, err3 := ofForm(v.Excluded)
			return api.Trees{Permitted: permitted, Excluded: excluded}, errors.Join(err1, err2, err3)
		},
		wrongs: []api.Trees{{}, {Permitted: []api.Subtree{}, Excluded: []api.Subtree{}}, {Permitted: []api.Subtree{}}, {Excluded: []api.Subtree{}}},
	}
	all := goodTrees()
	for i, t := range all {
		one, two := []api.Subtree{t}, []api.Subtree{all[(i*7+3)%len(all)], t}
		k.goods = append(k.goods, api.Trees{Permitted: one}, api.Trees{Excluded: one}, api.Trees{Permitted: one, Excluded: one}, api.Trees{Permitted: two, Excluded: one}, api.Trees{Permitted: one, Excluded: two})
	}
	for n := 1; n <= 16; n++ {
		k.goods = append(k.goods, api.Trees{Permitted: all[n : 2*n : 2*n]}, api.Trees{Excluded: all[n : 2*n : 2*n]}, api.Trees{Permitted: all[:n:n], Excluded: all[n : 16+n : 16+n]}, api.Trees{Permitted: all[:16:16], Excluded: slices.Repeat(all[n:n+1], n)})
	}
	k.wrongs = append(k.wrongs, api.Trees{Permitted: all[:17]}, api.Trees{Excluded: all[:17]}, api.Trees{Permitted: all[:17], Excluded: all[:1]}, api.Trees{Permitted: all[:1], Excluded: all[:17]}, api.Trees{Permitted: all[:17], Excluded: all[:17]}, api.Trees{Permitted: slices.Repeat(all[:1], 1<<16)}, api.Trees{Excluded: slices.Repeat(all[:1], 1<<16)})
	for _, t := range wrongTrees() {
		k.wrongs = append(k.wrongs, api.Trees{Permitted: []api.Subtree{t}}, api.Trees{Excluded: []api.Subtree{t}}, api.Trees{Permitted: all[:1], Excluded: []api.Subtree{t}}, api.Trees{Permitted: []api.Subtree{all[0], t}, Excluded: all[:1]}, api.Trees{Excluded: append(all[:15:15], t)}, api.Trees{Permitted: append(all[:15:15], t)}, api.Trees{Permitted: []api.Subtree{t, all[0]}})
	}
	return k
}

// keyIds are of several sorts.
func keyIds() []api.KeyId {
	l := []api.KeyId{{}, {1, 19: 2}, {0: 0xff}, {19: 0xff}, {19: 1}, {0x04, 0x14}, {0x80, 0x14}}
	var all api.KeyId
	for i := range all {
		all[i] = byte(i + 1)
		var one api.KeyId
		one[i] = 0x80
		l = append(l, one)
	}
	return append(l, all)
}

func subjects() kind[api.KeyId] {
	return single(kind[api.KeyId]{
		what:  "Subject",
		write: func(k api.KeyId) ([]byte, api.Errno) { return ext.Subject(k), api.OK },
		read:  ext.ToSubject,
		may:   func(api.KeyId) bool { return true },
		bytes: func(k api.KeyId) ([]byte, error) { return asn1.Marshal(k[:]) },
		parse: func(b []byte) (k api.KeyId, err error) {
			var l []byte
			_, err = asn1.Unmarshal(b, &l)
			copy(k[:], l)
			return k, err
		},
		goods: keyIds(),
	})
}

func issuers() kind[api.KeyId] {
	type form struct {
		Id []byte `asn1:"tag:0"`
	}
	return single(kind[api.KeyId]{
		what:  "Issuer",
		write: func(k api.KeyId) ([]byte, api.Errno) { return ext.Issuer(k), api.OK },
		read:  ext.ToIssuer,
		may:   func(api.KeyId) bool { return true },
		bytes: func(k api.KeyId) ([]byte, error) { return asn1.Marshal(form{k[:]}) },
		parse: func(b []byte) (k api.KeyId, err error) {
			var v form
			_, err = asn1.Unmarshal(b, &v)
			copy(k[:], v.Id)
			return k, err
		},
		goods: keyIds(),
	})
}

func numbers() kind[int] {
	k := kind[int]{
		what:   "Number",
		write:  ext.Number,
		read:   ext.ToNumber,
		may:    func(n int) bool { return n >= 0 },
		bytes:  func(n int) ([]byte, error) { return asn1.Marshal(int64(n)) },
		parse:  ofInteger,
		goods:  []int{0, 1, 2, 7, 100, 101, 1000, 1_000_000_007, math.MaxInt, math.MaxInt - 1},
		wrongs: []int{-1, -2, -127, -128, -129, -255, -256, -257, math.MinInt, math.MinInt + 1},
	}
	for i := range 63 {
		k.goods = append(k.goods, 1<<i-1, 1<<i, 1<<i+1)
		k.wrongs = append(k.wrongs, -1<<i, -1<<i-1)
	}
	return single(k)
}

func ofInteger(b []byte) (int, error) {
	var n int64
	_, err := asn1.Unmarshal(b, &n)
	return int(n), err
}

func reasons() kind[int] {
	k := kind[int]{
		what:  "Reason",
		write: ext.Reason,
		read:  ext.ToReason,
		may:   func(n int) bool { return n >= 0 && n <= 10 && n != 7 },
		bytes: func(n int) ([]byte, error) { return asn1.Marshal(asn1.Enumerated(n)) },
		parse: func(b []byte) (int, error) {
			var n asn1.Enumerated
			_, err := asn1.Unmarshal(b, &n)
			return int(n), err
		},
		goods: []int{0, 1, 2, 3, 4, 5, 6, 8, 9, 10},
	}
	for n := -300; n <= 300; n++ {
		if !slices.Contains(k.goods, n) {
			k.wrongs = append(k.wrongs, n)
		}
	}
	for _, n := range k.goods {
		k.wrongs = append(k.wrongs, n+1<<16, n+1<<31, n+1<<32, n-1<<32, math.MinInt+n)
	}
	k.wrongs = append(k.wrongs, math.MaxInt)
	return single(k)
}
