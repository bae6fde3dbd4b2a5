package nat_test

import (
	"encoding/binary"
	"math"
	"math/big"
	"slices"
	"testing"

	"chancery/api"
	"chancery/nat"
	"chancery/probe"
)

const most = math.MaxUint64

// What package probe has, by short names.
var (
	edges              = probe.Edges()
	row, power, padded = probe.Row, probe.Power, probe.Padded
	zeros, longs       = probe.Zeros, probe.Longs
)

// value is a number as the library has it.
func value(a api.Nat) *big.Int {
	b := make([]byte, 0, 8*len(a))
	for _, x := range slices.Backward(a) {
		b = binary.BigEndian.AppendUint64(b, x)
	}
	return new(big.Int).SetBytes(b)
}

// limbs are those of a number of the library, without limbs 0 at the end.
func limbs(x *big.Int) api.Nat {
	n := (x.BitLen() + 63) / 64
	b := x.FillBytes(make([]byte, 8*n))
	var a api.Nat
	for i := range n {
		a = append(a, binary.BigEndian.Uint64(b[8*(n-1-i):]))
	}
	return a
}

// is fails unless an answer is just these limbs, and not wrong.
func is(t *testing.T, call string, got api.Nat, e api.Errno, want api.Nat, given ...api.Nat) {
	t.Helper()
	if e != api.OK || !slices.Equal(got, want) {
		t.Fatalf("%s%x: %x, error %d; want %x", call, given, got, e, want)
	}
}

// wrong fails unless a call answered an error, and nothing beside it.
func wrong(t *testing.T, call string, got api.Nat, e, want api.Errno, given ...api.Nat) {
	t.Helper()
	if e != want || len(got) != 0 {
		t.Fatalf("%s%x: %x, error %d; want error %d", call, given, got, e, want)
	}
}

// divides fails unless Div answers these.
func divides(t *testing.T, a, b, quotient, rest api.Nat) {
	t.Helper()
	if q, r, e := nat.Div(a, b); e != api.OK || !slices.Equal(q, quotient) || !slices.Equal(r, rest) {
		t.Fatalf("Div(%x, %x): %x, %x, error %d; want %x, %x", a, b, q, r, e, quotient, rest)
	}
}

// notDivided fails unless Div answers this error, and nothing beside it.
func notDivided(t *testing.T, a, b api.Nat, want api.Errno) {
	t.Helper()
	if q, r, e := nat.Div(a, b); e != want || len(q) != 0 || len(r) != 0 {
		t.Fatalf("Div(%x, %x): %x, %x, error %d; want error %d", a, b, q, r, e, want)
	}
}

// compares fails unless Compare answers so.
func compares(t *testing.T, a, b api.Nat, want int) {
	t.Helper()
	if n, e := nat.Compare(a, b); n != want || e != api.OK {
		t.Fatalf("Compare(%x, %x): %d, error %d; want %d", a, b, n, e, want)
	}
}

// hold holds what is reckoned of two numbers against the library.
func hold(t *testing.T, a, b api.Nat) {
	t.Helper()
	x, y := value(a), value(b)
	compares(t, a, b, x.Cmp(y))
	sum, e := nat.Add(a, b)
	is(t, "Add", sum, e, limbs(new(big.Int).Add(x, y)), a, b)
	product, e := nat.Mul(a, b)
	is(t, "Mul", product, e, limbs(new(big.Int).Mul(x, y)), a, b)
	rest, e := nat.Sub(a, b)
	if x.Cmp(y) < 0 {
		wrong(t, "Sub", rest, e, api.ErrSign, a, b)
	} else {
		is(t, "Sub", rest, e, limbs(new(big.Int).Sub(x, y)), a, b)
	}
	holdDiv(t, a, b)
}

// holdDiv holds Div against the library.
func holdDiv(t *testing.T, a, b api.Nat) {
	t.Helper()
	x, y := value(a), value(b)
	if y.Sign() == 0 {
		notDivided(t, a, b, api.ErrZero)
		return
	}
	q, r := new(big.Int).QuoRem(x, y, new(big.Int))
	divides(t, a, b, limbs(q), limbs(r))
}
