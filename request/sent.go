package request

import (
	"chancery/api"
	"chancery/cert"
	"chancery/sign"
)

// pieces are what a request's bytes are joined of.
type pieces struct {
	body      []byte
	signature api.Signature
}

// signedBy tells whether the signature is one of the body, by a key.
func (p pieces) signedBy(q api.Point) bool { return sign.Verify(q, p.signature, p.body) }

// sent is a request with its bytes.
type sent struct {
	api.Request
	pieces
}

func read(b []byte) (sent, api.Errno) {
	// What is not joined has no body: and nothing is no request's.
	body, s, _ := cert.Split(b)
	r, wrong := ToBody(body)
	return sent{r, pieces{body, s}}, wrong
}

// proven is a request, if what was signed of it is signed by the key that it is about.
func proven(r api.Request, signedBy func(q api.Point) bool) (api.Request, api.Errno) {
	if !signedBy(r.Key) {
		return api.Request{}, api.ErrProof
	}
	return r, api.OK
}
