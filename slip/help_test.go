package slip_test

import (
	"bytes"
	"encoding/binary"
	"hash/crc32"
	"slices"
	"testing"

	"chancery/api"
	"chancery/probe"
	"chancery/slip"
)

// lengths are those of data at which something changes.
var lengths = []int{0, 1, 2, 3, 4, 5, 127, 128, 254, 255, 256, 257, 511, 512, 4096, api.MaxSlip - 1, api.MaxSlip}

// kinds are those at which something changes.
var kinds = []int{0, 1, 127, 128, 254, 255}

// filled is n bytes that look like chance, the same each time.
func filled(n int) []byte {
	var d probe.Draws
	return d.Bytes(n)
}

// datas are of n bytes each: of those at the ends, and of others.
func datas(n int) [][]byte {
	return [][]byte{make([]byte, n), bytes.Repeat([]byte{255}, n), filled(n)}
}

// laid is a slip's bytes, by the chapter's words and the library's sum.
func laid(s api.Slip) []byte {
	b := append([]byte{byte(s.Kind)}, binary.LittleEndian.AppendUint16(nil, uint16(len(s.Data)))...)
	b = append(b, s.Data...)
	return binary.LittleEndian.AppendUint32(b, crc32.ChecksumIEEE(b))
}

// same tells whether two slips are alike.
func same(x, y api.Slip) bool { return x.Kind == y.Kind && bytes.Equal(x.Data, y.Data) }

// zero tells whether a slip says nothing.
func zero(s api.Slip) bool { return s.Kind == 0 && len(s.Data) == 0 }

// wanted is what Take must answer of bytes, by the library.
func wanted(b []byte) (api.Slip, int, api.Errno) {
	if len(b) < 3 {
		return api.Slip{}, 0, api.ErrTorn
	}
	end := 3 + int(binary.LittleEndian.Uint16(b[1:]))
	if len(b) < end+4 {
		return api.Slip{}, 0, api.ErrTorn
	}
	if crc32.ChecksumIEEE(b[:end]) != binary.LittleEndian.Uint32(b[end:]) {
		return api.Slip{}, 0, api.ErrSum
	}
	return api.Slip{Kind: int(b[0]), Data: b[3:end]}, end + 4, api.OK
}

// told is what Each tells: a place and a slip.
type told struct {
	at int
	s  api.Slip
}

// gather is all that Each tells of bytes.
func gather(b []byte) []told {
	var l []told
	for at, s := range slip.Each(b) {
		l = append(l, told{at, s})
	}
	return l
}

func sameTold(x, y []told) bool {
	return slices.EqualFunc(x, y, func(a, b told) bool { return a.at == b.at && same(a.s, b.s) })
}

// wantedRow is what Each and End must tell of bytes, by the library.
func wantedRow(b []byte) (l []told, end int, e api.Errno) {
	for end < len(b) {
		s, n, e := wanted(b[end:])
		if e != api.OK {
			return l, end, e
		}
		l = append(l, told{end, s})
		end += n
	}
	return l, end, api.OK
}

// row is slips, one behind the other, and what Each must tell of them.
func row(slips ...api.Slip) (b []byte, l []told) {
	for _, s := range slips {
		l = append(l, told{len(b), s})
		b = append(b, laid(s)...)
	}
	return b, l
}

// several are slips of all kinds of lengths and kinds, but for very long ones; two neighbours are alike.
func several() []api.Slip {
	return []api.Slip{
		{Kind: 0}, {Kind: 255, Data: []byte{0}}, {Kind: 1, Data: []byte("one")}, {Kind: 1, Data: []byte("one")}, {Kind: 0, Data: make([]byte, 20)},
		{Kind: 128, Data: filled(255)}, {Kind: 7}, {Kind: 7, Data: filled(256)}, {Kind: 9, Data: laid(api.Slip{Kind: 3, Data: []byte("within")})}, {Kind: 0},
	}
}

// tells fails unless Each and End say this of bytes.
func tells(t *testing.T, what string, b []byte, want []told, end int, e api.Errno) {
	t.Helper()
	if l := gather(b); !sameTold(l, want) {
		t.Errorf("%s: Each tells %d slips, not these %d: %v", what, len(l), len(want), l)
	}
	if at, wrong := slip.End(b); at != end || wrong != e {
		t.Errorf("%s: End %d, error %d; want %d, error %d", what, at, wrong, end, e)
	}
}

// refuses fails unless Take answers this error, and else nothing.
func refuses(t *testing.T, b []byte, want api.Errno) {
	t.Helper()
	if s, n, e := slip.Take(b); e != want || n != 0 || !zero(s) {
		t.Fatalf("Take of %d bytes, %.20x: kind %d, %d data, %d in all, error %d; want %d", len(b), b, s.Kind, len(s.Data), n, e, want)
	}
}

// takes fails unless Take answers this slip, and so many bytes.
func takes(t *testing.T, b []byte, want api.Slip, size int) {
	t.Helper()
	if s, n, e := slip.Take(b); e != api.OK || n != size || !same(s, want) {
		t.Fatalf("Take of %d bytes, %.20x: kind %d, %d data, %d in all, error %d", len(b), b, s.Kind, len(s.Data), n, e)
	}
}

// put fails unless the slip is laid.
func put(t *testing.T, b []byte, s api.Slip) []byte {
	t.Helper()
	out, e := slip.Put(b, s)
	if e != api.OK {
		t.Fatalf("Put of kind %d, %d data: error %d", s.Kind, len(s.Data), e)
	}
	return out
}
