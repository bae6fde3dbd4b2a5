package oid_test

import (
	"bytes"
	"slices"
	"testing"

	"chancery/api"
	"chancery/oid"
	"chancery/probe"
)

// gather is what Arcs tells: places and numbers.
func gather(b []byte) (places, numbers []int) {
	for at, n := range oid.Arcs(b) {
		places = append(places, at)
		numbers = append(numbers, n)
	}
	return places, numbers
}

// P3.5
func TestArcs(t *testing.T) {
	for _, c := range []struct {
		b               string
		places, numbers []int
	}{
		{"", nil, nil},
		{"00", []int{0}, []int{0}},
		{"55 04 03", []int{0, 1, 2}, []int{85, 4, 3}},
		{"55 04 83 22 81", []int{0, 1, 2}, []int{85, 4, 418}},
		{"2a 86 48 ce 3d", []int{0, 1, 3}, []int{42, 840, 10045}},
		{"88 37 03", []int{0, 2}, []int{1079, 3}}, // the first number is told as it stands, not as two arcs
		{"7f 81 00 ff 7f 81 80 00", []int{0, 1, 3, 5}, []int{127, 128, 1<<14 - 1, 1 << 14}},
		{"ff ff 7f 81 80 80 00 ff ff ff 7f 81 80 80 80 00", []int{0, 3, 7, 11}, []int{1<<21 - 1, 1 << 21, 1<<28 - 1, 1 << 28}},
		{"87 ff ff ff 7f 87 ff ff ff 7e 00", []int{0, 5, 10}, []int{api.MaxArc, api.MaxArc - 1, 0}},
	} {
		if places, numbers := gather(probe.Raw(c.b)); !slices.Equal(places, c.places) || !slices.Equal(numbers, c.numbers) {
			t.Errorf("Arcs(%s): %d at %d", c.b, numbers, places)
		}
	}
	if places, _ := gather(nil); places != nil {
		t.Errorf("Arcs(nil): numbers at %d", places)
	}
}

// P3.5: it ends ahead of what is wrong, and tells nothing of what stands behind that.
func TestArcsFaults(t *testing.T) {
	for _, f := range faults {
		for _, c := range []struct {
			ahead           string
			places, numbers []int
		}{
			{"", nil, nil}, {"55", []int{0}, []int{85}}, {"55 83 22", []int{0, 1}, []int{85, 418}}, {"87 ff ff ff 7f", []int{0}, []int{api.MaxArc}},
		} {
			for _, behind := range []string{"", "04 03"} {
				if f.want == api.ErrShort && behind != "" {
					continue // it would be whole
				}
				b := probe.Raw(c.ahead + f.b + behind)
				if places, numbers := gather(b); !slices.Equal(places, c.places) || !slices.Equal(numbers, c.numbers) {
					t.Errorf("Arcs(%x): %d at %d", b, numbers, places)
				}
			}
		}
	}
}

// P3.5: how many there are is not looked at.
func TestArcsMany(t *testing.T) {
	for _, n := range []int{api.MaxArcs - 2, api.MaxArcs - 1, api.MaxArcs, api.MaxArcs + 1, 1000, 1 << 20} {
		b := append(bytes.Repeat([]byte{1}, n), 0x80)
		sum := 0
		for at, x := range oid.Arcs(b) {
			if at != sum || x != 1 {
				t.Fatalf("of %d: %d at %d", n, x, at)
			}
			sum++
		}
		if sum != n {
			t.Errorf("%d of %d numbers", sum, n)
		}
	}
}

// P3.5, P2: it may be left, and gone over again, also while it is gone over.
func TestArcsAgain(t *testing.T) {
	b := probe.Raw("55 04 83 22 07 81")
	arcs := oid.Arcs(b)
	var seen []int
	for at := range arcs {
		seen = append(seen, at)
		if at == 1 {
			break
		}
	}
	for at, n := range arcs {
		for inner := range arcs {
			seen = append(seen, 10+inner)
			if inner == at {
				break
			}
		}
		seen = append(seen, n)
	}
	if want := []int{0, 1, 10, 85, 10, 11, 4, 10, 11, 12, 418, 10, 11, 12, 14, 7}; !slices.Equal(seen, want) {
		t.Errorf("%d", seen)
	}
	// Asked by hand, with a body that has enough at once.
	calls := 0
	arcs(func(int, int) bool { calls++; return false })
	if calls != 1 {
		t.Errorf("%d calls behind the end", calls)
	}
}

// P3.5: it tells of b as it was at the call, not as it is when it is gone over.
func TestArcsAtTheCall(t *testing.T) {
	for _, with := range []byte{0, 0x80, 0x81, 0xff} {
		b, _ := probe.Roomy(probe.Raw("55 04 83 22 07"))
		arcs := oid.Arcs(b)
		probe.Scribble(b, with)
		var seen []int
		for at, n := range arcs {
			seen = append(seen, at, n)
			probe.Scribble(b, with+byte(at))
		}
		if !slices.Equal(seen, []int{0, 85, 1, 4, 2, 418, 4, 7}) {
			t.Errorf("%d", seen)
		}
	}
	b := probe.Raw("55 80 01")
	arcs := oid.Arcs(b)
	b[1] = 1
	n := 0
	for range arcs {
		n++
	}
	if n != 1 {
		t.Errorf("%d numbers: what was wrong at the call is right now", n)
	}
}

// P3.5: what the loop's own body gives up with is the body's affair: it is not caught, be it an error's number or not.
func TestArcsBodyGivesUp(t *testing.T) {
	for _, with := range []any{"enough", api.ErrPad, api.ErrArc} {
		caught := func() (r any) {
			defer func() { r = recover() }()
			for range oid.Arcs(probe.Raw("55 04 80")) {
				panic(with)
			}
			return nil
		}()
		if caught != with {
			t.Errorf("%v instead of %v", caught, with)
		}
	}
}
