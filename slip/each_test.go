package slip_test

import (
	"bytes"
	"slices"
	"testing"

	"chancery/api"
	"chancery/probe"
	"chancery/slip"
)

// P9.4: of nothing, of one slip and of some.
func TestEachAndEnd(t *testing.T) {
	tells(t, "nil", nil, nil, 0, api.OK)
	tells(t, "nothing", []byte{}, nil, 0, api.OK)
	one := probe.Raw("010300 6f6e65 355713b8")
	first := told{0, api.Slip{Kind: 1, Data: []byte("one")}}
	tells(t, "one", one, []told{first}, 10, api.OK)
	two := append(one, probe.Raw("020500 7468726565 5bd8d8f5")...)
	both := []told{first, {10, api.Slip{Kind: 2, Data: []byte("three")}}}
	tells(t, "two", two, both, 22, api.OK)
	tells(t, "two and an empty one", append(two, probe.Raw("000000 12d941ff")...), append(both, told{22, api.Slip{}}), 29, api.OK)
}

// P9.4: of one slip, of each length and kind.
func TestEachOfOne(t *testing.T) {
	for _, n := range lengths {
		for _, kind := range kinds {
			b, want := row(api.Slip{Kind: kind, Data: filled(n)})
			tells(t, "one", b, want, len(b), api.OK)
			tells(t, "one, with a byte behind it", append(b, 0), want, len(b), api.ErrTorn)
		}
	}
}

// P9.4: of many: short ones, and long ones.
func TestEachOfMany(t *testing.T) {
	var short, long []api.Slip
	for i := range 20000 {
		short = append(short, api.Slip{Kind: i % 256, Data: filled(i % 40)})
	}
	for i := range 20 {
		long = append(long, api.Slip{Kind: i, Data: filled(api.MaxSlip - i%2)})
	}
	for _, slips := range [][]api.Slip{several(), short, long, make([]api.Slip, 50000)} {
		b, want := row(slips...)
		tells(t, "many", b, want, len(b), api.OK)
	}
}

// P9.4: what is no slip, ahead of all, gives nothing, and End tells Take's error; so behind others.
func TestEachOfWrong(t *testing.T) {
	ahead, before := row(several()...)
	for digits, e := range map[string]api.Errno{
		"00": api.ErrTorn, "ff": api.ErrTorn, "0000": api.ErrTorn, "000000": api.ErrTorn, "000000 12d941": api.ErrTorn, "000100 12d941ff": api.ErrTorn, "00ffff 12d941ff": api.ErrTorn,
		"000000 12d941fe": api.ErrSum, "010000 12d941ff": api.ErrSum, "00000000000000": api.ErrSum, "000000 12d941fe 000000 12d941ff": api.ErrSum,
	} {
		b := probe.Raw(digits)
		tells(t, digits, b, nil, 0, e)
		tells(t, digits+" behind others", append(bytes.Clone(ahead), b...), before, len(ahead), e)
	}
}

// P9.4: with one that is wrong among them, at each place, nothing of what stands behind it is told.
func TestEachWithOneWrong(t *testing.T) {
	b, all := row(several()...)
	for i, x := range all {
		size := slip.Size(len(x.s.Data))
		for _, at := range []int{0, 3, size - 5, size - 4, size - 1} {
			if at == 2 {
				continue // of no data, this byte is one of the number
			}
			for bit := range 8 {
				wrong := bytes.Clone(b)
				wrong[x.at+at] ^= 1 << bit
				tells(t, "one wrong", wrong, all[:i], x.at, api.ErrSum)
			}
		}
		for bit := range 16 {
			wrong := bytes.Clone(b)
			wrong[x.at+1+bit/8] ^= 1 << (bit % 8)
			want, end, e := wantedRow(wrong)
			if len(want) != i {
				t.Fatal("another number of data is taken by the library too")
			}
			tells(t, "another number", wrong, want, end, e)
		}
	}
}

// P9.4: with one byte too much or too little among them.
func TestEachWithShifts(t *testing.T) {
	b, _ := row(several()...)
	for at := range b {
		for _, wrong := range [][]byte{slices.Insert(bytes.Clone(b), at, b[at]^1), slices.Delete(bytes.Clone(b), at, at+1)} {
			want, end, e := wantedRow(wrong)
			tells(t, "shifted", wrong, want, end, e)
		}
	}
}

// P9.4, P2: it may be left, at each place, and gone over again, also while it is gone over.
func TestEachAgain(t *testing.T) {
	b, all := row(several()...)
	each := slip.Each(b)
	for stop := range all {
		var l []told
		for at, s := range each {
			l = append(l, told{at, s})
			if len(l) == stop+1 {
				break
			}
		}
		if !sameTold(l, all[:stop+1]) {
			t.Errorf("left behind %d: %v", stop+1, l)
		}
	}
	count := 0
	for at, s := range each {
		inner := 0
		for other := range each {
			if other == at {
				break
			}
			inner++
		}
		if inner != count || !same(s, all[count].s) {
			t.Errorf("at %d: %d ahead of it", at, inner)
		}
		count++
	}
	if count != len(all) {
		t.Errorf("%d slips", count)
	}
	calls := 0
	each(func(int, api.Slip) bool { calls++; return false })
	if calls != 1 {
		t.Errorf("%d calls behind the end", calls)
	}
}

// P9.4: it tells of b as it was at the call, not as it is when it is gone over, or becomes meanwhile.
func TestEachAtTheCall(t *testing.T) {
	whole, all := row(several()...)
	for _, with := range []byte{0, 1, 0xff} {
		b, _ := probe.Roomy(whole)
		afterwards, meanwhile := slip.Each(b), slip.Each(b)
		var l []told
		for at, s := range meanwhile {
			l = append(l, told{at, s})
			probe.Scribble(b, with)
		}
		if !sameTold(l, all) {
			t.Errorf("meanwhile: %v", l)
		}
		l = nil
		for at, s := range afterwards {
			l = append(l, told{at, s})
		}
		if !sameTold(l, all) {
			t.Errorf("afterwards: %v", l)
		}
	}
}

// P9.4: so where what was wrong at the call is right now.
func TestEachAtTheCallOfWrong(t *testing.T) {
	b, all := row(several()...)
	b[all[4].at]++
	each := slip.Each(b)
	b[all[4].at]--
	count := 0
	for range each {
		count++
	}
	if count != 4 {
		t.Errorf("%d slips", count)
	}
	torn := slip.Each(b[:len(b)-1])
	count = 0
	for range torn {
		count++
	}
	if count != len(all)-1 {
		t.Errorf("torn off: %d slips", count)
	}
}

// P9.4: End, of the bytes up to each place and from each place on, is where the library ends.
func TestEndOfAny(t *testing.T) {
	b, _ := row(several()...)
	for at := range len(b) + 1 {
		for _, part := range [][]byte{b[at:], b[:at]} {
			want, end, e := wantedRow(part)
			tells(t, "a part", part, want, end, e)
		}
	}
}
