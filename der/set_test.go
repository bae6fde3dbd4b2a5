package der_test

import (
	"bytes"
	"slices"
	"testing"

	"chancery/der"
	"chancery/probe"
)

func list(t *testing.T, digits ...string) [][]byte {
	t.Helper()
	var l [][]byte
	for _, s := range digits {
		l = append(l, probe.Raw(s))
	}
	return l
}

func sameList(x, y [][]byte) bool { return slices.EqualFunc(x, y, bytes.Equal) }

// P1.7
func TestSet(t *testing.T) {
	for _, c := range [][2][]string{
		{nil, nil},
		{{""}, {""}},
		{{"05"}, {"05"}},
		{{"03", "0201", "02"}, {"02", "0201", "03"}},
		{{"ff", "7f", "80", "00"}, {"00", "7f", "80", "ff"}}, // bytes, not numbers with a sign
		{{"0202", "03"}, {"0202", "03"}},                     // not by how long they are
		{{"0300", "020202"}, {"020202", "0300"}},
		{{"01", "01", "00"}, {"00", "01", "01"}},
		{{"02", "0200", "020000"}, {"02", "0200", "020000"}}, // alike: as they came
		{{"020000", "02", "0200"}, {"020000", "02", "0200"}},
		{{"0200", "01", "02", "0201", "020000"}, {"01", "0200", "02", "020000", "0201"}},
		{{"00", "", "0000", "01"}, {"00", "", "0000", "01"}},
		{{"0001", "", "00"}, {"", "00", "0001"}},
		{{"02000001", "0200"}, {"0200", "02000001"}},
		{{"0200", "02000001", "02"}, {"0200", "02", "02000001"}},
		{{"310161", "30020500", "300105"}, {"300105", "30020500", "310161"}},
	} {
		l := list(t, c[0]...)
		if got := der.Set(l...); !sameList(got, list(t, c[1]...)) {
			t.Errorf("Set(%v): %x", c[0], got)
		}
		if !sameList(l, list(t, c[0]...)) {
			t.Errorf("Set(%v) has changed what was handed in: %x", c[0], l)
		}
	}
	if l := der.Set(nil, []byte{}, nil); len(l) != 3 || len(l[0])+len(l[1])+len(l[2]) != 0 {
		t.Errorf("three that have no byte: %x", l)
	}
}

// padded is the order of a SET OF, told again: every string filled up to the same length.
func padded(x, y []byte) int {
	n := max(len(x), len(y))
	fill := func(b []byte) []byte { return append(bytes.Clone(b), make([]byte, n-len(b))...) }
	return bytes.Compare(fill(x), fill(y))
}

// P1.7: of many that are alike, each keeps its place among those; the length tells which came when.
func TestSetStable(t *testing.T) {
	var l [][]byte
	for i := range 500 {
		l = append(l, append([]byte{byte(i * 37 % 5), byte(i * 11 % 3)}, make([]byte, i)...))
	}
	want := slices.Clone(l)
	slices.SortStableFunc(want, padded)
	got := der.Set(l...)
	if !sameList(got, want) {
		t.Error("not the order of a SET OF")
	}
	for i := 1; i < len(got); i++ {
		if padded(got[i-1], got[i]) == 0 && len(got[i-1]) >= len(got[i]) {
			t.Errorf("place %d: those that are alike do not stand as they came", i)
		}
	}
}

// P1.7: every three of some short strings.
func TestSetShort(t *testing.T) {
	some := list(t, "", "00", "01", "ff", "0000", "0001", "0100", "0101", "01ff", "000000", "010000", "010001")
	for _, x := range some {
		for _, y := range some {
			for _, z := range some {
				want := [][]byte{x, y, z}
				slices.SortStableFunc(want, padded)
				if got := der.Set(x, y, z); !sameList(got, want) {
					t.Errorf("Set(%x, %x, %x): %x", x, y, z, got)
				}
			}
		}
	}
}
