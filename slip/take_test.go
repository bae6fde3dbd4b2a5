package slip_test

import (
	"bytes"
	"testing"

	"chancery/api"
	"chancery/probe"
	"chancery/slip"
)

// P9.3: written out.
func TestTake(t *testing.T) {
	takes(t, probe.Raw("000000 12d941ff"), api.Slip{}, 7)
	takes(t, probe.Raw("000000 12d941ff 07"), api.Slip{}, 7)
	takes(t, probe.Raw("ff0000 ffedd941"), api.Slip{Kind: 255}, 7)
	takes(t, probe.Raw("010300 6f6e65 355713b8"), api.Slip{Kind: 1, Data: []byte("one")}, 10)
	takes(t, probe.Raw("020500 7468726565 5bd8d8f5 010300"), api.Slip{Kind: 2, Data: []byte("three")}, 12)
	refuses(t, probe.Raw("0000"), api.ErrTorn)
	refuses(t, probe.Raw("000000 12d941fe"), api.ErrSum)
	refuses(t, probe.Raw("000100 12d941ff"), api.ErrTorn)
	refuses(t, probe.Raw("000000 ff41d912"), api.ErrSum) // the sum with its highest byte first
	refuses(t, probe.Raw("010003 6f6e65 355713b8"), api.ErrTorn)
}

// P9.3: of all lengths and kinds at which something changes: just a slip, and one with bytes behind it.
func TestTakeOfEach(t *testing.T) {
	for _, n := range lengths {
		for _, kind := range kinds {
			for _, data := range datas(n) {
				s := api.Slip{Kind: kind, Data: data}
				b := laid(s)
				for _, behind := range [][]byte{nil, {0}, {255}, make([]byte, 7), bytes.Repeat([]byte{255}, 9), b} {
					takes(t, append(bytes.Clone(b), behind...), s, len(b))
				}
			}
		}
	}
}

// P9.3: fewer than three bytes, whatever they are.
func TestTakeOfFew(t *testing.T) {
	refuses(t, nil, api.ErrTorn)
	refuses(t, []byte{}, api.ErrTorn)
	for x := range 256 {
		refuses(t, []byte{byte(x)}, api.ErrTorn)
		for y := range 256 {
			refuses(t, []byte{byte(x), byte(y)}, api.ErrTorn)
		}
	}
}

// P9.3: fewer bytes than the slip has, at every place; where they lie in a longer row, what stands behind them is not read.
func TestTakeOfTorn(t *testing.T) {
	for _, n := range []int{0, 1, 2, 4, 255, 256, 4096} {
		for _, data := range datas(n) {
			b := laid(api.Slip{Kind: 5, Data: data})
			for end := range b {
				refuses(t, b[:end], api.ErrTorn)
				refuses(t, b[:end:end], api.ErrTorn)
			}
		}
	}
	b := laid(api.Slip{Kind: 5, Data: filled(api.MaxSlip)})
	for _, end := range []int{0, 2, 3, 6, 7, 1 << 15, len(b) - 5, len(b) - 4, len(b) - 1} {
		refuses(t, b[:end], api.ErrTorn)
	}
}

// P9.3: a number that is greater than what follows is ErrTorn, also where the sum is another one.
func TestTakeOfGreatNumber(t *testing.T) {
	for _, n := range []int{0, 1, 100, 255, 256, 1000} {
		b := laid(api.Slip{Kind: 1, Data: filled(n)})
		for _, number := range []int{n + 1, n + 2, n + 4, n + 256, 1 << 15, api.MaxSlip - 1, api.MaxSlip} {
			wrong := bytes.Clone(b)
			wrong[1], wrong[2] = byte(number), byte(number>>8)
			refuses(t, wrong, api.ErrTorn)
			wrong[0]++
			refuses(t, wrong, api.ErrTorn)
		}
	}
}

// P9.3: a number that is less has another sum, where what follows isn't that of a shorter slip.
func TestTakeOfSmallNumber(t *testing.T) {
	for n := 1; n < 300; n++ {
		b := laid(api.Slip{Kind: 1, Data: filled(n)})
		for number := range n {
			b[1], b[2] = byte(number), byte(number>>8)
			refuses(t, b, api.ErrSum)
		}
	}
	within := laid(api.Slip{Kind: 1, Data: []byte("ab")})
	b := laid(api.Slip{Kind: 1, Data: append(within[3:], "behind"...)})
	b[1], b[2] = 2, 0
	takes(t, b, api.Slip{Kind: 1, Data: []byte("ab")}, 9)
}

// P9.3: sums that are another one, at each of their bytes, with all values of it.
func TestTakeOfOtherSums(t *testing.T) {
	for _, n := range []int{0, 1, 3, 256} {
		b := laid(api.Slip{Kind: 77, Data: filled(n)})
		for at := len(b) - 4; at < len(b); at++ {
			for x := 1; x < 256; x++ {
				wrong := bytes.Clone(b)
				wrong[at] ^= byte(x)
				refuses(t, wrong, api.ErrSum)
				refuses(t, append(wrong, 1, 2, 3), api.ErrSum)
			}
		}
	}
	for _, wrong := range [][]byte{make([]byte, 7), make([]byte, 1000), bytes.Repeat([]byte{255}, api.MaxSlip+7), bytes.Repeat([]byte{255}, 1<<20)} {
		refuses(t, wrong, api.ErrSum)
	}
	refuses(t, bytes.Repeat([]byte{255}, api.MaxSlip+6), api.ErrTorn)
}

// P9.3: all short rows of some bytes, out of which slips can be made, are held against the library.
func TestTakeOfAny(t *testing.T) {
	taken := 0
	for b := range probe.Short([]byte{0, 1, 0x12, 0x41, 0xd9, 0xff}, 8) {
		want, size, wrong := wanted(b)
		if s, n, e := slip.Take(b); n != size || e != wrong || !same(s, want) {
			t.Fatalf("Take(%x): %v, %d, error %d; want %v, %d, error %d", b, s, n, e, want, size, wrong)
		}
		if wrong == api.OK {
			taken++
		}
	}
	if taken < 7 {
		t.Errorf("only %d of them are slips", taken)
	}
}
