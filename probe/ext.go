package probe

import (
	"bytes"
	"math"
	"slices"

	"chancery/api"
)

// SameExt tells whether two extensions are the same.
func SameExt(a, b api.Ext) bool {
	return a.Id == b.Id && a.Critical == b.Critical && bytes.Equal(a.Value, b.Value)
}

// SameExts tells whether two lists of extensions are the same.
func SameExts(a, b []api.Ext) bool { return slices.EqualFunc(a, b, SameExt) }

// RoomyExts is a copy of extensions with spare room behind the list and behind each Value; left tells whether all of it is as it was.
func RoomyExts(l []api.Ext) (given []api.Ext, left func() bool) {
	spare := api.Ext{Id: 126, Critical: true, Value: []byte("spare")}
	given, whole := RoomyWith(l, spare)
	var values [][]byte
	for _, x := range l {
		values = append(values, x.Value)
	}
	roomy, leftValues := RoomyPieces(values...)
	for i, value := range roomy {
		given[i].Value = value
	}
	was := slices.Clone(whole)
	return given, func() bool { return leftValues() && SameExts(whole, was) && SameExts(given, l) }
}

// ScribbleExts writes over each Value, and over the list.
func ScribbleExts(l []api.Ext) {
	for _, x := range l {
		Scribble(x.Value, 0x77)
	}
	Scribble(l, api.Ext{Id: 125, Value: []byte("scribbled")})
}

// ExtRow is n extensions of different Ids, every other one critical, with Values of their own.
func ExtRow(n int) []api.Ext {
	var l []api.Ext
	for i := range n {
		l = append(l, api.Ext{Id: (i*37 + 19) % 128, Critical: i%2 == 0, Value: bytes.Repeat([]byte("v"), i)})
	}
	return l
}

// ExtLists are extensions of each sort that may be, and none.
func ExtLists() [][]api.Ext {
	l := [][]api.Ext{nil, {}, {{Id: 19, Critical: true, Value: Raw("30 00")}}, {{Id: 0}}, {{Id: 127, Critical: true}}, {{Id: 19, Critical: true, Value: Raw("30 03 01 01 ff")}, {Id: 15, Critical: true, Value: Raw("03 02 02 84")}}}
	for n := 1; n <= 16; n++ {
		l = append(l, ExtRow(n))
	}
	// Values by which contents that stand around one another have lengths of one, two and three bytes.
	for _, n := range []int{56, 100, 112, 114, 116, 120, 127, 128, 250, 256, 65000, 65300, 65520, 65536} {
		l = append(l, []api.Ext{{Id: 1, Value: make([]byte, n)}})
	}
	return l
}

// LongExts are the longest extensions that may be.
func LongExts() []api.Ext {
	l := ExtRow(16)
	for i := range l {
		l[i].Value = make([]byte, api.MaxExtValue)
	}
	return l
}

// NoExtLists are extensions of each sort that may not.
func NoExtLists() [][]api.Ext {
	return [][]api.Ext{
		ExtRow(17), ExtRow(18), ExtRow(128), make([]api.Ext, 1<<16), {{Id: -1}}, {{Id: 128}}, {{Id: 256 + 19}}, {{Id: 1<<32 + 19}}, {{Id: math.MinInt}}, {{Id: 19}, {Id: 19}},
		append(ExtRow(15), ExtRow(1)...), append(ExtRow(3), api.Ext{Id: 128}), {{Id: 19, Value: make([]byte, api.MaxExtValue+1)}}, append(LongExts()[:15], api.Ext{Id: 127, Value: make([]byte, api.MaxExtValue+1)}),
	}
}

// ExtBytes are those of an extension that has an Id of one byte, but not by ext.
func ExtBytes(x api.Ext) []byte {
	var critical []byte
	if x.Critical {
		critical = Raw("01 01 ff")
	}
	return Put(0x30, Raw("06 03 55 1d"), []byte{byte(x.Id)}, critical, Put(4, x.Value))
}

// ExtsBytes are those of extensions, however many.
func ExtsBytes(l []api.Ext) []byte {
	var all [][]byte
	for _, x := range l {
		all = append(all, ExtBytes(x))
	}
	return Put(0x30, all...)
}
