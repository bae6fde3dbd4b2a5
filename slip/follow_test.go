package slip_test

import (
	"bytes"
	"testing"

	"chancery/api"
	"chancery/probe"
	"chancery/slip"
)

// P9.5: Take of Put is the slip, whatever stands ahead of it and behind it.
func TestTakeOfPut(t *testing.T) {
	for _, n := range lengths {
		for _, kind := range kinds {
			for _, data := range datas(n) {
				s := api.Slip{Kind: kind, Data: data}
				takes(t, put(t, nil, s), s, slip.Size(n))
				takes(t, append(put(t, []byte("ahead"), s)[5:], "behind"...), s, slip.Size(n))
			}
		}
	}
	for n := range 600 {
		s := api.Slip{Kind: n % 256, Data: filled(n)}
		takes(t, put(t, nil, s), s, slip.Size(n))
	}
}

// P9.5: Put of Take is the bytes again.
func TestPutOfTake(t *testing.T) {
	for _, n := range lengths {
		b := laid(api.Slip{Kind: n % 256, Data: filled(n)})
		s, size, e := slip.Take(append(bytes.Clone(b), "behind"...))
		if e != api.OK || size != len(b) || !bytes.Equal(put(t, nil, s), b) {
			t.Errorf("%d data: %d in all, error %d", n, size, e)
		}
	}
}

// torn fails unless, of slips that are torn off at an end, just the whole ones are told.
func torn(t *testing.T, b []byte, all []told, end int) {
	t.Helper()
	count, place := 0, 0
	for count < len(all) && all[count].at+slip.Size(len(all[count].s.Data)) <= end {
		place = all[count].at + slip.Size(len(all[count].s.Data))
		count++
	}
	e := api.ErrTorn
	if place == end {
		e = api.OK
	}
	tells(t, "torn off", b[:end], all[:count], place, e)
}

// P9.5: of slips that Put has laid, one behind the other, torn off at every place, just the whole ones are told.
func TestTorn(t *testing.T) {
	var b []byte
	var all []told
	for _, s := range several() {
		all = append(all, told{len(b), s})
		b = put(t, b, s)
	}
	for end := range len(b) + 1 {
		torn(t, b, all, end)
	}
}

// P9.5: so of long ones, around each of their edges.
func TestTornLong(t *testing.T) {
	var b []byte
	var all []told
	for _, n := range []int{api.MaxSlip, 0, api.MaxSlip - 1, 1 << 15, api.MaxSlip} {
		s := api.Slip{Kind: n % 256, Data: filled(n)}
		all = append(all, told{len(b), s})
		b = put(t, b, s)
	}
	for _, x := range all {
		for _, at := range []int{0, 1, 2, 3, 4, slip.Size(len(x.s.Data)) / 2, slip.Size(len(x.s.Data)) - 5, slip.Size(len(x.s.Data)) - 1} {
			torn(t, b, all, x.at+at)
		}
	}
	torn(t, b, all, len(b))
}

// P9.5: so of rows whose lengths look like chance.
func TestTornAnywhere(t *testing.T) {
	var d probe.Draws
	for range 200 {
		var b []byte
		var all []told
		for range d.Next() % 30 {
			s := api.Slip{Kind: int(d.Next() % 256), Data: d.Bytes(int(d.Next() % 70))}
			all = append(all, told{len(b), s})
			b = put(t, b, s)
		}
		for range 20 {
			torn(t, b, all, int(d.Next()%uint64(len(b)+1)))
		}
	}
}
