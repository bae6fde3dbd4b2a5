package probe_test

import (
	"bytes"
	"slices"
	"testing"

	"chancery/probe"
)

func TestCut(t *testing.T) {
	b := []byte("abc")
	for _, c := range []struct {
		at   []int
		want []string
	}{
		{nil, []string{"abc"}},
		{[]int{0}, []string{"", "abc"}},
		{[]int{1}, []string{"a", "bc"}},
		{[]int{1, 1, 3}, []string{"a", "", "bc", ""}},
	} {
		var got []string
		for _, piece := range probe.Cut(b, c.at...) {
			got = append(got, string(piece))
		}
		if !slices.Equal(got, c.want) {
			t.Errorf("at %d: %q", c.at, got)
		}
	}
}

func TestRoomyPieces(t *testing.T) {
	changes := map[string]func(given [][]byte){
		"a piece's byte":       func(given [][]byte) { given[1][0]++ },
		"a piece's spare room": func(given [][]byte) { given[0][:cap(given[0])][len(given[0])]++ },
		"a piece's end":        func(given [][]byte) { given[1] = given[1][:1] },
		"a piece of the list":  func(given [][]byte) { given[2] = []byte("other") },
		"the list's room":      func(given [][]byte) { _ = append(given, []byte("more")) },
		"the list's last room": func(given [][]byte) { _ = append(given, []byte("spare"), []byte("more")) },
		"all":                  func(given [][]byte) { probe.ScribblePieces(given, 0x55) },
	}
	for what, change := range changes {
		given, left := probe.RoomyPieces([]byte("a"), []byte("bc"), nil)
		if len(given) != 3 || string(bytes.Join(given, nil)) != "abc" || cap(given[2]) == 0 || !left() {
			t.Fatalf("%q, left: %t", given, left())
		}
		change(given)
		if left() {
			t.Errorf("%s is changed, and it isn't told", what)
		}
	}
	if given, left := probe.RoomyPieces(); len(given) != 0 || !left() {
		t.Errorf("of none: %q", given)
	}
}

func TestScribblePieces(t *testing.T) {
	part, whole := probe.Roomy([]byte("abc"))
	pieces := [][]byte{part}
	probe.ScribblePieces(pieces, 7)
	if pieces[0] != nil || !bytes.Equal(whole, bytes.Repeat([]byte{7}, len(whole))) {
		t.Errorf("%x, %x", pieces, whole)
	}
}
