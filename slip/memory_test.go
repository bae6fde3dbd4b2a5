package slip_test

import (
	"bytes"
	"runtime"
	"testing"

	"chancery/api"
	"chancery/probe"
	"chancery/slip"
)

// P2: Sum leaves its pieces, the spare room behind them and their list.
func TestSumLeavesPieces(t *testing.T) {
	for _, n := range []int{0, 1, 255, 256} {
		given, left := probe.RoomyPieces(filled(n), nil, []byte("more"), filled(n))
		if got := slip.Sum(given...); got != bitSum(bytes.Join(given, nil)) || !left() {
			t.Errorf("pieces of %d bytes: %x, left: %t", n, got, left())
		}
	}
	b := filled(100)
	if slip.Sum(b, b[50:], b[:70]) != bitSum(bytes.Join([][]byte{b, b[50:], b[:70]}, nil)) || !bytes.Equal(b, filled(100)) {
		t.Error("pieces that lie over each other")
	}
}

// P2: Put leaves what it is handed, also where it refuses, and answers memory of its own.
func TestPutMemory(t *testing.T) {
	for _, n := range []int{0, 1, 20, 255, 256, api.MaxSlip} {
		for _, ahead := range []int{0, 1, 30} {
			given, left := probe.RoomyPieces(filled(ahead), filled(n))
			s := api.Slip{Kind: 3, Data: given[1]}
			want := append(filled(ahead), laid(s)...)
			one, other := put(t, given[0], s), put(t, given[0], s)
			slip.Put(given[0], api.Slip{Kind: 256, Data: given[1]})
			if !left() || !bytes.Equal(one, want) {
				t.Errorf("%d data onto %d bytes: %d, or an argument is changed", n, ahead, len(one))
			}
			probe.Scribble(one, 0x77)
			if !left() || !bytes.Equal(other, want) {
				t.Errorf("%d data onto %d bytes: an answer shares memory", n, ahead)
			}
			probe.ScribblePieces(given, 0x55)
			if !bytes.Equal(other, want) {
				t.Errorf("%d data onto %d bytes: an answer shares memory with an argument", n, ahead)
			}
		}
	}
	given, left := probe.RoomyPieces([]byte("ahead"), make([]byte, api.MaxSlip+1))
	if _, e := slip.Put(given[0], api.Slip{Data: given[1]}); e != api.ErrLong || !left() {
		t.Errorf("error %d, or an argument is changed", e)
	}
}

// P2: two rows that begin alike, in one list with spare room, don't meet.
func TestPutTwiceOntoOne(t *testing.T) {
	b := make([]byte, 0, 100)
	b = append(b, laid(api.Slip{Kind: 1})...)
	one := put(t, b, api.Slip{Kind: 2, Data: []byte("one")})
	other := put(t, b, api.Slip{Kind: 3, Data: []byte("other")})
	want, _ := row(api.Slip{Kind: 1}, api.Slip{Kind: 2, Data: []byte("one")})
	if !bytes.Equal(one, want) || bytes.HasPrefix(other, one) || !bytes.Equal(b[:50], append(bytes.Clone(b), make([]byte, 43)...)) {
		t.Errorf("%x, %x, %x", one, other, b[:50])
	}
}

// P2: the data may be a piece of the bytes ahead of it, or of the room behind those.
func TestPutOfItself(t *testing.T) {
	b, whole := probe.Roomy([]byte("ahead"))
	for _, data := range [][]byte{b, b[1:3], whole, whole[5:], whole[8:20]} {
		s := api.Slip{Kind: 8, Data: bytes.Clone(data)}
		if out := put(t, b, api.Slip{Kind: 8, Data: data}); !bytes.Equal(out, append([]byte("ahead"), laid(s)...)) {
			t.Errorf("%x", out)
		}
	}
}

// P2: Take leaves its bytes, also where it refuses, and answers data of its own.
func TestTakeMemory(t *testing.T) {
	for _, n := range []int{0, 1, 20, 255, 256, api.MaxSlip} {
		was := laid(api.Slip{Kind: 3, Data: filled(n)})
		given, left := probe.RoomyPieces(was)
		b := given[0]
		one, _, _ := slip.Take(b)
		other, _, _ := slip.Take(b)
		slip.Take(b[:len(b)-1])
		slip.Take(b[1:])
		slip.End(b)
		if !left() || !bytes.Equal(one.Data, filled(n)) {
			t.Errorf("%d data: its argument is changed", n)
		}
		probe.Scribble(one.Data, 0x77)
		if !left() || !bytes.Equal(other.Data, filled(n)) {
			t.Errorf("%d data: an answer shares memory", n)
		}
		probe.ScribblePieces(given, 0x55)
		if !bytes.Equal(other.Data, filled(n)) {
			t.Errorf("%d data: an answer shares memory with an argument", n)
		}
	}
}

// P2: Each leaves its bytes, and what it tells is memory of its own each time.
func TestEachMemory(t *testing.T) {
	b, all := row(several()...)
	given, left := probe.RoomyPieces(b)
	each := slip.Each(given[0])
	var datas [][]byte
	for range 2 {
		for _, s := range each {
			datas = append(datas, s.Data)
		}
	}
	for i, data := range datas {
		if !bytes.Equal(data, all[i%len(all)].s.Data) {
			t.Errorf("slip %d shares memory with one ahead: %x", i, data)
		}
		probe.Scribble(data, byte(0xa0+i))
	}
	for i, data := range datas {
		if !bytes.Equal(data, bytes.Repeat([]byte{byte(0xa0 + i)}, len(data))) {
			t.Errorf("slip %d shares memory with another one: %x", i, data)
		}
	}
	var again []told
	for at, s := range each {
		again = append(again, told{at, s})
		probe.Scribble(s.Data, 0x33)
	}
	if !left() || len(again) != len(all) {
		t.Errorf("%d slips, or the bytes are changed", len(again))
	}
	tells(t, "behind it", given[0], all, len(b), api.OK)
}

// P2: what is scribbled over within the loop is not what is told next, or again.
func TestEachKeepsItsOwn(t *testing.T) {
	b, all := row(several()...)
	each := slip.Each(b)
	for range 2 {
		i := 0
		for at, s := range each {
			if at != all[i].at || !same(s, all[i].s) {
				t.Errorf("slip %d at %d: %v", i, at, s)
			}
			probe.Scribble(s.Data, 0x44)
			i++
		}
		if i != len(all) {
			t.Errorf("%d slips", i)
		}
	}
}

// P3, P5: the same is told again, behind errors too, and no goroutine is left.
func TestNothingIsKept(t *testing.T) {
	b, all := row(several()...)
	before := runtime.NumGoroutine()
	for range 20 {
		slip.Put(b, api.Slip{Kind: -1})
		refuses(t, b[1:], api.ErrTorn)
		tells(t, "again", b, all, len(b), api.OK)
		for range slip.Each(b) {
			break
		}
		if slip.Sum(b) != bitSum(b) {
			t.Errorf("Sum: %x", slip.Sum(b))
		}
	}
	if after := runtime.NumGoroutine(); after > before {
		t.Errorf("%d goroutines, ahead of it %d", after, before)
	}
}
