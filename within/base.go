package within

import (
	"strings"

	"chancery/api"
	"chancery/host"
	"chancery/name"
)

const (
	dot       = "."
	atSign    = "@"
	wildBegin = "*."
)

// base is a subtree's Base.
type base string

// rule is how subtrees of a kind are asked: whether one may be, and whether all that a name of that kind stands for lies in it.
type rule struct {
	kind int
	may  func(b base) bool
	has  func(b base, text string) bool
}

func rules() []rule {
	return []rule{
		{api.GEmail, base.isMail, base.hasMail},
		{api.GDNS, base.isHost, base.hasHost},
		{api.GName, base.isName, base.hasName},
		{api.GIP, base.isNet, base.hasAddress},
	}
}

// ruleOf is the rule of a kind, and whether there is one.
func ruleOf(kind int) (rule, bool) {
	for _, r := range rules() {
		if r.kind == kind {
			return r, true
		}
	}
	return rule{}, false
}

func (b base) isMail() bool {
	return host.Email(string(b)) || host.DNS(strings.TrimPrefix(string(b), dot))
}

// hasMail tells whether a mail address lies in it.
func (b base) hasMail(text string) bool {
	local, domain, _ := strings.Cut(text, atSign)
	if ownLocal, ownDomain, isAddress := strings.Cut(string(b), atSign); isAddress {
		return local == ownLocal && host.Match(ownDomain, domain)
	}
	if above, begins := strings.CutPrefix(string(b), dot); begins {
		return Below(domain, above) && !host.Match(above, domain)
	}
	return host.Match(string(b), domain)
}

func (b base) isHost() bool { return host.DNS(string(b)) }

// hasHost tells whether a host's name lies in it, or all that a wild name stands for.
func (b base) hasHost(text string) bool {
	// The hosts of a wild name have any first label, so they are all below Base just if what stands behind it is.
	return Below(strings.TrimPrefix(text, wildBegin), string(b))
}

func (b base) isName() bool {
	_, wrong := name.Decode([]byte(b))
	return wrong == api.OK
}

// hasName tells whether the name that has these bytes lies in it.
func (b base) hasName(text string) bool {
	// No error comes, since both are a name's bytes.
	n, _ := name.Decode([]byte(text))
	above, _ := name.Decode([]byte(b))
	return name.Begins(n, above)
}

func (b base) isNet() bool {
	address, mask := b.halves()
	if !host.IP(address) || len(mask) != len(address) {
		return false
	}
	ended := false
	for i := range 8 * len(mask) {
		if bit(mask, i) && ended || !bit(mask, i) && bit(address, i) {
			return false
		}
		ended = !bit(mask, i)
	}
	return true
}

// hasAddress tells whether a network address lies in it.
func (b base) hasAddress(text string) bool {
	address, mask := b.halves()
	if len(text) != len(address) {
		return false
	}
	for i := range len(mask) {
		if text[i]&mask[i] != address[i] { // where the mask has 0 the address has no 1
			return false
		}
	}
	return true
}

// halves are a network's address and its mask.
func (b base) halves() (address, mask string) {
	half := len(b) / 2
	return string(b[:half]), string(b[half:])
}

// bit tells whether bytes have a 1 at i, from the highest bit of the first one on.
func bit(s string, i int) bool { return s[i/8]>>(7-i%8)&1 == 1 }
