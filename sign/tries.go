package sign

import (
	"chancery/api"
	"chancery/sha"
)

// well is what tries are drawn from: the chapter's k and v.
type well struct{ k, v api.Digest }

// filled is the well of a key and a text's number.
func filled(d, z api.Digest) *well {
	w := &well{}
	for i := range w.v {
		w.v[i] = 1
	}
	w.stir([]byte{0}, d[:], z[:])
	w.stir([]byte{1}, d[:], z[:])
	return w
}

// draw is the next v.
func (w *well) draw() api.Digest {
	w.v = sha.Mac(w.k[:], w.v[:])
	return w.v
}

// stir makes the next k, of v and what is behind it, and v anew.
func (w *well) stir(behind ...[]byte) {
	pieces := append([][]byte{w.v[:]}, behind...)
	w.k = sha.Mac(w.k[:], pieces...)
	w.draw()
}
