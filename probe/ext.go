package probe

import (
	"bytes"
	"slices"

	"chancery/api"
)

// SameExt tells whether two extensions are the same.
func SameExt(a, b api.Ext) bool {
	return a.Id == b.Id && a.Critical == b.Critical && bytes.Equal(a.Value, b.Value)
}

// SameExts tells whether two lists of extensions are the same.
func SameExts(a, b []api.Ext) bool { return slices.EqualFunc(a, b, SameExt) }

// RoomyExts is a copy of extensions with spare room behind the list and behind each Value; left tells whether all of it is as it was.
func RoomyExts(l []api.Ext) (given []api.Ext, left func() bool) {
	spare := api.Ext{Id: 126, Critical: true, Value: []byte("spare")}
	given, whole := RoomyWith(l, spare)
	var values [][]byte
	for _, x := range l {
		values = append(values, x.Value)
	}
	roomy, leftValues := RoomyPieces(values...)
	for i, value := range roomy {
		given[i].Value = value
	}
	was := slices.Clone(whole)
	return given, func() bool { return leftValues() && SameExts(whole, was) && SameExts(given, l) }
}

// ScribbleExts writes over each Value, and over the list.
func ScribbleExts(l []api.Ext) {
	for _, x := range l {
		Scribble(x.Value, 0x77)
	}
	Scribble(l, api.Ext{Id: 125, Value: []byte("scribbled")})
}

// ExtRow is n extensions of different Ids, every other one critical, with Values of their own.
func ExtRow(n int) []api.Ext {
	var l []api.Ext
	for i := range n {
		l = append(l, api.Ext{Id: (i*37 + 19) % 128, Critical: i%2 == 0, Value: bytes.Repeat([]byte("v"), i)})
	}
	return l
}
