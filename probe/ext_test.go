package probe_test

import (
	"testing"

	"chancery/api"
	"chancery/probe"
)

func TestSameExts(t *testing.T) {
	one := api.Ext{Id: 1, Critical: true, Value: []byte("a")}
	for _, other := range []api.Ext{{}, {Id: 2, Critical: true, Value: []byte("a")}, {Id: 1, Value: []byte("a")}, {Id: 1, Critical: true}, {Id: 1, Critical: true, Value: []byte("ab")}} {
		if probe.SameExt(one, other) || probe.SameExts([]api.Ext{one}, []api.Ext{other}) {
			t.Errorf("%v is the same as %v", one, other)
		}
	}
	if l := []api.Ext{one}; !probe.SameExt(one, one) || !probe.SameExts(l, l) || probe.SameExts(l, nil) || !probe.SameExts(nil, []api.Ext{}) {
		t.Error("what is the same isn't")
	}
	if !probe.SameExt(api.Ext{Id: 1}, api.Ext{Id: 1, Value: []byte{}}) {
		t.Error("no Value and an empty one differ")
	}
}

func TestRoomyExts(t *testing.T) {
	for what, change := range map[string]func(given []api.Ext){
		"an Id":                  func(given []api.Ext) { given[1].Id++ },
		"a Value's byte":         func(given []api.Ext) { given[2].Value[0]++ },
		"a Value's spare room":   func(given []api.Ext) { _ = append(given[0].Value, 1) },
		"a Value":                func(given []api.Ext) { given[2].Value = nil },
		"the list's room":        func(given []api.Ext) { _ = append(given, api.Ext{}) },
		"Critical":               func(given []api.Ext) { given[0].Critical = false },
		"the last of the room":   func(given []api.Ext) { given[:cap(given)][cap(given)-1].Id++ },
		"all that is written to": probe.ScribbleExts,
	} {
		l := probe.ExtRow(3)
		given, left := probe.RoomyExts(l)
		if !left() || !probe.SameExts(given, l) || cap(given) == len(given) || cap(given[0].Value) == 0 {
			t.Fatalf("%v, left: %t", given, left())
		}
		if change(given); left() || !probe.SameExts(l, probe.ExtRow(3)) {
			t.Errorf("%s is changed: left %t, the list is %v", what, left(), l)
		}
	}
}

func TestExtRow(t *testing.T) {
	seen := map[int]int{}
	for _, x := range probe.ExtRow(128) {
		seen[x.Id]++
		if x.Id < 0 || x.Id > 127 || seen[x.Id] > 1 {
			t.Errorf("the Id %d, %d times", x.Id, seen[x.Id])
		}
	}
	if len(seen) != 128 {
		t.Errorf("%d Ids", len(seen))
	}
}
