package name

import (
	"strings"

	"chancery/api"
)

const (
	comma  = ','
	mark   = '\\' // what stands ahead of a comma, or of itself, in a Value's text
	equals = "="
)

// labels are those of the types; a number that is no type has none.
var labels = [...]string{commonName: "CN", serialNumber: "SN", country: "C", locality: "L", state: "ST", organization: "O", unit: "OU"}

// told is the text of an attribute that may be.
func told(a api.Attr) string { return labels[a.Type] + equals + marked(a.Value) }

// parsed is the attribute whose text s is; where it is none's, any one, since Parse asks for the text again.
func parsed(s string) api.Attr {
	label, value, _ := strings.Cut(s, equals)
	return api.Attr{Type: typeOf(label), Value: unmarked(value)}
}

// typeOf is the type that has a label; 0, which is none, if none has.
func typeOf(label string) int {
	for t, l := range labels {
		if l == label {
			return t // 0 of the empty text, too
		}
	}
	return 0
}

// marked is a Value as it stands in a text.
func marked(value string) string {
	b := make([]byte, 0, len(value))
	for at := range len(value) {
		if value[at] == comma || value[at] == mark {
			b = append(b, mark)
		}
		b = append(b, value[at])
	}
	return string(b)
}

// unmarked is the Value that stands so in a text.
func unmarked(s string) string {
	b := make([]byte, 0, len(s))
	for at := 0; at < len(s); at++ {
		if s[at] == mark && at+1 < len(s) {
			at++
		}
		b = append(b, s[at])
	}
	return string(b)
}
