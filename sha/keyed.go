package sha

import "chancery/api"

// What each byte of a key's block is xored with: ahead of the text, and ahead of the text's digest.
const (
	innerMask = 54
	outerMask = 92
)

// Keyed takes bytes piece by piece, for a keyed digest.
//
// What it has by its Hash stands here again, since a call that is promoted panics where the Keyed is nil.
type Keyed struct {
	Hash       // takes the text, behind the key's inner block
	outer Hash // has taken the key's outer block
}

// Key makes one.
func Key(key []byte) *Keyed {
	k := &Keyed{Hash: *New(), outer: *New()}
	inner, outer := keyBlock(key, innerMask), keyBlock(key, outerMask)
	k.take(inner[:])
	k.outer.take(outer[:])
	return k
}

// Write takes bytes.
func (k *Keyed) Write(b ...[]byte) api.Errno {
	if !k.made() {
		return api.ErrNil
	}
	k.take(b...)
	return api.OK
}

// Sum is the keyed digest so far.
func (k *Keyed) Sum() api.Digest {
	if !k.made() {
		return api.Digest{}
	}
	inner, outer := k.digest(), k.outer
	outer.take(inner[:])
	return outer.digest()
}

// Len tells how many bytes there were; those of the key's block are none of them.
func (k *Keyed) Len() int {
	if !k.made() {
		return 0
	}
	return k.count - blockSize
}

// Copy is a Hash that goes on from here: of the key's inner block and the text, so that its Sum is no keyed digest.
func (k *Keyed) Copy() *Hash {
	if !k.made() {
		return nil
	}
	return k.Hash.Copy()
}

// made tells whether a call made it: the Hash alone may be one that New made.
func (k *Keyed) made() bool { return k != nil && k.Hash.made() && k.outer.made() }

// keyBlock is a key, or its digest where it is longer than a block, with bytes 0 behind it; each byte is xored with the mask.
func keyBlock(key []byte, mask byte) [blockSize]byte {
	var block [blockSize]byte
	if len(key) > blockSize {
		d := Sum(key)
		key = d[:]
	}
	copy(block[:], key)
	for i := range block {
		block[i] ^= mask
	}
	return block
}
