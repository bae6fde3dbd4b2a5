package host

import (
	"strings"

	"chancery/api"
	"chancery/name"
)

const (
	colon  = ":"
	digits = "0123456789abcdef"
)

// words stand ahead of the texts of the kinds; a number that is no kind has none.
var words = [...]string{api.GEmail: "email", api.GDNS: "dns", api.GName: "name", api.GIP: "ip"}

// rules ask, for each kind, whether a general name's Text may be.
func rules() map[int]func(string) bool {
	return map[int]func(string) bool{
		api.GEmail: Email,
		api.GDNS:   func(s string) bool { return DNS(s) || Wild(s) },
		api.GName:  isName,
		api.GIP:    IP,
	}
}

// kindOf is the kind that has a word; 0, which is none, if none has.
func kindOf(word string) int {
	for kind, w := range words {
		if w == word {
			return kind // 0 of the empty text, too
		}
	}
	return 0
}

// told is what stands behind the word in the text of a general name that may be.
func told(g api.General) string {
	switch g.Kind {
	case api.GIP:
		return inDigits(g.Text)
	case api.GName:
		return nameText(g.Text)
	}
	return g.Text
}

// parsed is the general name of a kind of which s is told; where it is none's, any one, since Parse asks for the text again.
func parsed(kind int, s string) api.General {
	text := strings.Clone(s)
	switch kind {
	case api.GIP:
		text = ofDigits(s)
	case api.GName:
		text = nameBytes(s)
	}
	return api.General{Kind: kind, Text: text}
}

// inDigits is bytes by two digits each.
func inDigits(s string) string {
	b := make([]byte, 0, 2*len(s))
	for place := range len(s) {
		b = append(b, digits[s[place]>>4], digits[s[place]&15])
	}
	return string(b)
}

// ofDigits is the bytes that have these digits; what is no digit stands for any.
func ofDigits(s string) string {
	b := make([]byte, 0, len(s)/2)
	for place := 1; place < len(s); place += 2 {
		high, low := strings.IndexByte(digits, s[place-1]), strings.IndexByte(digits, s[place])
		b = append(b, byte(high)<<4|byte(low))
	}
	return string(b)
}

// isName tells whether bytes are a name's.
func isName(s string) bool {
	_, wrong := name.Decode([]byte(s))
	return wrong == api.OK
}

// nameText is the text of the name that has these bytes.
func nameText(s string) string {
	// No error comes, since they are a name's.
	n, _ := name.Decode([]byte(s))
	text, _ := name.Text(n)
	return text
}

// nameBytes is the bytes of the name that has this text; of what is no name's those of the name without attributes.
func nameBytes(s string) string {
	n, _ := name.Parse(s)
	b, _ := name.Encode(n)
	return string(b)
}
