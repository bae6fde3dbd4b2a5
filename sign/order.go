package sign

import (
	"chancery/api"
	"chancery/curve"
	"chancery/mod"
)

const limbBytes = 8

// reckoning is what is done modulo n with digests as numbers, whether they are below n or not. 0 has no inverse: there it is 0.
type reckoning struct {
	rest, inverse func(a api.Digest) api.Digest
	plus, times   func(a, b api.Digest) api.Digest
}

func moduloOrder() reckoning {
	m, _ := mod.New(limbs(curve.Order())) // no error comes: n is odd
	return reckoning{rest: ofOne(m.Reduce), inverse: ofOne(m.Inverse), plus: ofTwo(m.Add), times: ofTwo(m.Mul)}
}

// ofOne turns what reckons with limbs into what reckons with digests. Their four limbs are never too long, so the errors fall away.
func ofOne(do func(a api.Nat) (api.Nat, api.Errno)) func(a api.Digest) api.Digest {
	return func(a api.Digest) api.Digest {
		c, _ := do(limbs(a))
		return digest(c)
	}
}

// ofTwo does so for what takes two.
func ofTwo(do func(a, b api.Nat) (api.Nat, api.Errno)) func(a, b api.Digest) api.Digest {
	return func(a, b api.Digest) api.Digest {
		c, _ := do(limbs(a), limbs(b))
		return digest(c)
	}
}

// limbs are those of a digest's number.
func limbs(d api.Digest) api.Nat {
	a := make(api.Nat, len(d)/limbBytes)
	for i, x := range d {
		at := (len(d) - 1 - i) / limbBytes
		a[at] = a[at]<<8 | uint64(x)
	}
	return a
}

// digest is a number of at most as many limbs, as bytes.
func digest(a api.Nat) api.Digest {
	var d api.Digest
	for i := range limbBytes * len(a) {
		d[len(d)-1-i] = byte(a[i/limbBytes] >> (i % limbBytes * 8))
	}
	return d
}
