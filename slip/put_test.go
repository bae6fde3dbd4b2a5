package slip_test

import (
	"bytes"
	"math"
	"testing"

	"chancery/api"
	"chancery/probe"
	"chancery/slip"
)

// P9.2: written out.
func TestPut(t *testing.T) {
	for _, c := range []struct {
		b    string
		kind int
		data []byte
		want string
	}{
		{"09", 0, nil, "09 000000 12d941ff"},
		{"", 0, nil, "000000 12d941ff"},
		{"", 0, []byte{}, "000000 12d941ff"},
		{"", 255, nil, "ff0000 ffedd941"},
		{"", 1, []byte("one"), "010300 6f6e65 355713b8"},
		{"000000 12d941ff", 2, []byte("three"), "000000 12d941ff 020500 7468726565 5bd8d8f5"},
	} {
		b, want := probe.Raw(c.b), probe.Raw(c.want)
		if out := put(t, b, api.Slip{Kind: c.kind, Data: c.data}); !bytes.Equal(out, want) {
			t.Errorf("Put(%x, {%d, %x}): %x; want %x", b, c.kind, c.data, out, want)
		}
	}
}

// P9.2: of all lengths and kinds at which something changes, onto nil, onto nothing, and onto others.
func TestPutOfEach(t *testing.T) {
	for _, n := range lengths {
		for _, kind := range kinds {
			for _, data := range datas(n) {
				s := api.Slip{Kind: kind, Data: data}
				for _, b := range [][]byte{nil, {}, {0}, {9}, []byte("bytes ahead"), laid(s)} {
					want := append(bytes.Clone(b), laid(s)...)
					if out := put(t, b, s); !bytes.Equal(out, want) || len(out) != len(b)+slip.Size(n) {
						t.Errorf("Put onto %d bytes, kind %d, %d data: %d bytes, %.20x", len(b), kind, n, len(out), out)
					}
				}
			}
		}
	}
}

// P9.2: every kind.
func TestPutOfEachKind(t *testing.T) {
	for kind := range 256 {
		s := api.Slip{Kind: kind, Data: []byte("data")}
		if out := put(t, nil, s); !bytes.Equal(out, laid(s)) {
			t.Errorf("kind %d: %x", kind, out)
		}
	}
}

// P9.2: where the sum stands, and of what it is; what stands ahead is no part of it.
func TestPutsSum(t *testing.T) {
	for n := range 300 {
		out := put(t, []byte("ahead"), api.Slip{Kind: n % 256, Data: filled(n)})[5:]
		sum := bitSum(out[:3+n])
		want := []byte{byte(sum), byte(sum >> 8), byte(sum >> 16), byte(sum >> 24)}
		if !bytes.Equal(out[3+n:], want) || out[1] != byte(n) || out[2] != byte(n>>8) {
			t.Errorf("%d data: %x", n, out)
		}
	}
}

// P9.2: kinds that are none, whatever the data, and data that are too many; beside an error stands nothing.
func TestPutOfWrong(t *testing.T) {
	many := [][]byte{make([]byte, api.MaxSlip+1), make([]byte, api.MaxSlip+2), make([]byte, 1<<17), make([]byte, 1<<20)}
	for _, b := range [][]byte{nil, {}, []byte("bytes ahead")} {
		for _, kind := range []int{-1, 256, -2, 257, -256, -255, 512, 1 << 16, 1 << 32, math.MinInt, math.MaxInt} {
			for _, data := range append(many, nil, []byte{}, []byte{1}, make([]byte, api.MaxSlip)) {
				if out, e := slip.Put(b, api.Slip{Kind: kind, Data: data}); e != api.ErrArg || len(out) != 0 {
					t.Errorf("kind %d, %d data: %d bytes, error %d", kind, len(data), len(out), e)
				}
			}
		}
		for _, kind := range kinds {
			for _, data := range many {
				if out, e := slip.Put(b, api.Slip{Kind: kind, Data: data}); e != api.ErrLong || len(out) != 0 {
					t.Errorf("kind %d, %d data: %d bytes, error %d", kind, len(data), len(out), e)
				}
			}
		}
	}
}

// P9.2
func TestSize(t *testing.T) {
	for data := range api.MaxSlip + 1 {
		if got := slip.Size(data); got != data+7 {
			t.Fatalf("Size(%d): %d", data, got)
		}
	}
	for _, data := range []int{-1, -2, -7, -8, api.MaxSlip + 1, api.MaxSlip + 2, 1 << 17, math.MinInt, math.MinInt + 7, math.MaxInt - 6, math.MaxInt} {
		if got := slip.Size(data); got != 0 {
			t.Errorf("Size(%d): %d", data, got)
		}
	}
}
