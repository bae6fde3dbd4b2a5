package cert

import (
	"chancery/api"
	"chancery/clock"
	"chancery/der"
	"chancery/ext"
	"chancery/name"
	"chancery/num"
)

const version = 2 // the number by which the third version goes

// part is one of those that stand in a body, one behind the other: how it is written of a certificate, and read into one.
type part struct {
	write func(c api.Cert) []byte
	read  func(c *api.Cert, b []byte)
}

func parts() []part {
	return []part{
		{writeVersion, readNothing},
		{writeSerial, readSerial},
		{writeAlgorithm, readNothing},
		{writeIssuer, readIssuer},
		{writeTimes, readTimes},
		{writeSubject, readSubject},
		{writeKey, readKey},
		{writeExts, readExts},
	}
}

func writeBody(c api.Cert) []byte {
	var l [][]byte
	for _, p := range parts() {
		l = append(l, p.write(c))
	}
	return put(sequenceTag, l...)
}

func readBody(b []byte) api.Cert {
	var c api.Cert
	l := parts()
	for i, x := range row(inside(b), len(l)) {
		l[i].read(&c, x)
	}
	return c
}

// readNothing is of what is the same in all certificates.
func readNothing(*api.Cert, []byte) {}

func writeVersion(api.Cert) []byte { return put(versionTag, put(integerTag, num.Int(version))) }

func writeAlgorithm(api.Cert) []byte { return algorithm() }

func writeSerial(c api.Cert) []byte {
	must(len(c.Serial) > 0 && c.Serial[0] != 0)
	content := num.Nat(c.Serial)
	must(len(content) <= api.MaxSerial)
	return put(integerTag, content)
}

func readSerial(c *api.Cert, b []byte) { c.Serial, _ = num.ToNat(inside(b)) }

func writeIssuer(c api.Cert) []byte { return sure(name.Encode(c.Issuer)) }

func readIssuer(c *api.Cert, b []byte) { c.Issuer, _ = name.Decode(b) }

func writeTimes(c api.Cert) []byte {
	must(c.From <= c.To)
	return put(sequenceTag, writeTime(c.From), writeTime(c.To))
}

func readTimes(c *api.Cert, b []byte) {
	l := row(inside(b), 2)
	c.From, c.To = readTime(l[0]), readTime(l[1])
}

func writeTime(t int) []byte {
	tag, content, wrong := clock.Put(t)
	must(wrong == api.OK)
	return put(tag, content)
}

func readTime(b []byte) int {
	x, _ := der.One(b)
	t, _ := clock.Take(x.Tag, x.Content)
	return t
}

func writeSubject(c api.Cert) []byte { return sure(name.Encode(c.Subject)) }

func readSubject(c *api.Cert, b []byte) { c.Subject, _ = name.Decode(b) }

func writeKey(c api.Cert) []byte { return sure(Key(c.Key)) }

func readKey(c *api.Cert, b []byte) { c.Key = readPoint(b) }

func writeExts(c api.Cert) []byte {
	if len(c.Exts) == 0 {
		return nil
	}
	return put(extsTag, sure(ext.Encode(c.Exts)))
}

func readExts(c *api.Cert, b []byte) { c.Exts, _ = ext.Decode(inside(b)) }
