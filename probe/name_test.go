package probe_test

import (
	"slices"
	"testing"

	"chancery/api"
	"chancery/ext"
	"chancery/name"
	"chancery/probe"
)

func TestNames(t *testing.T) {
	for _, n := range probe.Names() {
		if !name.May(n) {
			t.Errorf("%v may not be", n)
		}
	}
	for _, n := range probe.NoNames() {
		if name.May(n) {
			t.Errorf("%v may be", n)
		}
	}
	if n := probe.Named("a"); !slices.Equal(n, api.Name{{Type: 3, Value: "a"}}) {
		t.Errorf("%v", n)
	}
	for n := range 20 {
		if l := probe.Attrs(n); len(l) != n || name.May(l) != (n <= api.MaxAttrs) {
			t.Errorf("%v", l)
		}
	}
}

func TestRoomyName(t *testing.T) {
	for what, change := range map[string]func(given api.Name){
		"a Type":               func(given api.Name) { given[1].Type++ },
		"a Value":              func(given api.Name) { given[0].Value = "" },
		"the room":             func(given api.Name) { _ = append(given, api.Attr{}) },
		"the last of the room": func(given api.Name) { given[:cap(given)][cap(given)-1].Type++ },
		"all":                  probe.ScribbleName,
	} {
		n := probe.Attrs(3)
		given, left := probe.RoomyName(n)
		if !left() || !slices.Equal(given, n) || cap(given) == len(given) {
			t.Fatalf("%v, left: %t", given, left())
		}
		if change(given); left() || !slices.Equal(n, probe.Attrs(3)) {
			t.Errorf("%s is changed: left %t, the name is %v", what, left(), n)
		}
	}
}

func TestExtLists(t *testing.T) {
	for _, l := range append(probe.ExtLists(), probe.LongExts()) {
		b, e := ext.Encode(l)
		if len(l) > 0 && (e != api.OK || !slices.Equal(b, probe.ExtsBytes(l))) {
			t.Errorf("%v: %.300x, error %d", l, b, e)
		}
	}
	for _, l := range probe.NoExtLists() {
		if b, e := ext.Encode(l); e == api.OK || len(l) == 0 {
			t.Errorf("%v: %.300x", l, b)
		}
	}
}
