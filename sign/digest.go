package sign

import (
	"iter"

	"chancery/api"
	"chancery/curve"
)

// first is the signature of the text with digest h by key d and the first of the tries with which one goes. The tries are handed in, since none of the chapter's is known with which no signature goes: a test brings others.
func first(d, h api.Digest, tries iter.Seq[api.Digest]) (api.Signature, api.Errno) {
	do := moduloOrder()
	for t := range tries {
		if s := tried(d, h, t, do); goes(s) {
			return s, api.OK
		}
	}
	return api.Signature{}, api.ErrNone
}

// tried is the signature by a try, whether it goes or not.
func tried(d, h, t api.Digest, do reckoning) api.Signature {
	p, _ := curve.Mul(t, curve.Base()) // no error comes: the base is a point
	r := do.rest(p.X)
	return api.Signature{R: r, S: do.times(do.plus(h, do.times(r, d)), do.inverse(t))}
}

func goes(s api.Signature) bool { return s.R != api.Digest{} && s.S != api.Digest{} }

// fits tells whether a signature, its numbers being from 1 to n - 1, is one of the text with digest h by the key of a point.
func fits(q api.Point, s api.Signature, h api.Digest) bool {
	do := moduloOrder()
	over := do.inverse(s.S)
	// No error comes: these are points.
	a, _ := curve.Mul(do.times(h, over), curve.Base())
	b, _ := curve.Mul(do.times(s.R, over), q)
	p, _ := curve.Add(a, b)
	return !p.Inf && do.rest(p.X) == s.R
}
