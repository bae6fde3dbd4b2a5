package probe

import (
	"slices"
	"strings"

	"chancery/api"
)

// Named is a name with one attribute.
func Named(s string) api.Name { return api.Name{{Type: 3, Value: s}} }

// Attrs is a name with n attributes.
func Attrs(n int) api.Name {
	l := api.Name{}
	for i := range n {
		l = append(l, api.Attr{Type: []int{3, 7, 8, 10, 11}[i%5], Value: strings.Repeat("v", i%64+1)})
	}
	return l
}

// Names are those of each sort that may be.
func Names() []api.Name {
	l := []api.Name{
		nil, {}, Named("a"), Named("\u00e9"), Named("a@b"), Named(strings.Repeat("x", 64)),
		{{Type: 6, Value: "DE"}, {Type: 10, Value: "a, b"}}, {{Type: 5, Value: "1"}, {Type: 5, Value: "1"}}, slices.Repeat(Named(strings.Repeat("_", 64)), 16),
	}
	for n := 1; n <= 16; n++ {
		l = append(l, Attrs(n))
	}
	return l
}

// NoNames are those of each sort that may not.
func NoNames() []api.Name {
	return []api.Name{
		Attrs(17), Attrs(18), slices.Repeat(Named("a"), 17), slices.Repeat(Named("a"), 1<<16), {{}}, Named(""), Named(strings.Repeat("x", 65)), Named("\xff"),
		{{Type: 4, Value: "a"}}, {{Type: 6, Value: "de"}}, {{Type: 6, Value: "D"}}, {{Type: 5, Value: "a@b"}}, append(Attrs(15), api.Attr{Type: 9, Value: "a"}), append(api.Name{{Type: 3}}, Attrs(3)...),
	}
}

// RoomyName is a copy of a name with spare room behind it; left tells whether all of it is as it was.
func RoomyName(n api.Name) (given api.Name, left func() bool) {
	given, whole := RoomyWith(n, api.Attr{Type: 3, Value: "spare"})
	was := slices.Clone(whole)
	return given, func() bool { return slices.Equal(whole, was) }
}

// ScribbleName writes over a name, and over the spare room behind it.
func ScribbleName(n api.Name) { Scribble(n, api.Attr{Type: 11, Value: "scribbled"}) }
