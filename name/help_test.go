package name_test

import (
	"bytes"
	"crypto/x509/pkix"
	"encoding/asn1"
	"fmt"
	"math"
	"regexp"
	"slices"
	"strings"
	"testing"
	"unicode/utf8"

	"chancery/api"
	"chancery/der"
	"chancery/name"
	"chancery/probe"
)

// labels of the types, as the chapter has them.
var labels = map[int]string{3: "CN", 5: "SN", 6: "C", 7: "L", 8: "ST", 10: "O", 11: "OU"}

// types are the seven; those that take any Value come first.
var types = []int{3, 7, 8, 10, 11, 5, 6}

// free are the types that take any Value that is UTF-8.
var free = types[:5]

// known are names with their bytes and their texts, written out.
var known = []struct {
	n           api.Name
	bytes, text string
}{
	{nil, "30 00", ""},
	{api.Name{}, "30 00", ""},
	{api.Name{{Type: 3, Value: "a"}}, "30 0c 31 0a 30 08 06 03 55 04 03 13 01 61", "CN=a"},
	{api.Name{{Type: 5, Value: "0-9"}}, "30 0e 31 0c 30 0a 06 03 55 04 05 13 03 30 2d 39", "SN=0-9"},
	{api.Name{{Type: 6, Value: "DE"}}, "30 0d 31 0b 30 09 06 03 55 04 06 13 02 44 45", "C=DE"},
	{api.Name{{Type: 7, Value: "Ulm"}}, "30 0e 31 0c 30 0a 06 03 55 04 07 13 03 55 6c 6d", "L=Ulm"},
	{api.Name{{Type: 8, Value: "BW"}}, "30 0d 31 0b 30 09 06 03 55 04 08 13 02 42 57", "ST=BW"},
	{api.Name{{Type: 10, Value: "a, b"}}, "30 0f 31 0d 30 0b 06 03 55 04 0a 13 04 61 2c 20 62", `O=a\, b`},
	{api.Name{{Type: 11, Value: `a\b`}}, "30 0e 31 0c 30 0a 06 03 55 04 0b 0c 03 61 5c 62", `OU=a\\b`},
	{api.Name{{Type: 3, Value: "a@b"}}, "30 0e 31 0c 30 0a 06 03 55 04 03 0c 03 61 40 62", "CN=a@b"},
	{api.Name{{Type: 3, Value: "\u00e9"}}, "30 0d 31 0b 30 09 06 03 55 04 03 0c 02 c3 a9", "CN=\u00e9"},
	{api.Name{{Type: 3, Value: " "}}, "30 0c 31 0a 30 08 06 03 55 04 03 13 01 20", "CN= "},
	{api.Name{{Type: 3, Value: "="}}, "30 0c 31 0a 30 08 06 03 55 04 03 13 01 3d", "CN=="},
	{api.Name{{Type: 3, Value: "O=a,C=DE"}}, "30 13 31 11 30 0f 06 03 55 04 03 13 08 4f 3d 61 2c 43 3d 44 45", `CN=O=a\,C=DE`},
	{api.Name{{Type: 5, Value: ",,"}}, "30 0d 31 0b 30 09 06 03 55 04 05 13 02 2c 2c", `SN=\,\,`},
	{
		api.Name{{Type: 3, Value: `,a\`}, {Type: 3, Value: `\\,`}},
		"30 1c 31 0c 30 0a 06 03 55 04 03 0c 03 2c 61 5c 31 0c 30 0a 06 03 55 04 03 0c 03 5c 5c 2c",
		`CN=\,a\\,CN=\\\\\,`,
	},
	{
		api.Name{{Type: 6, Value: "DE"}, {Type: 10, Value: "a, b"}},
		"30 1c 31 0b 30 09 06 03 55 04 06 13 02 44 45 31 0d 30 0b 06 03 55 04 0a 13 04 61 2c 20 62",
		`C=DE,O=a\, b`,
	},
	{ // the order is kept, also where bytes would have another one
		api.Name{{Type: 11, Value: "b"}, {Type: 10, Value: "a"}, {Type: 11, Value: "a"}},
		"30 24 31 0a 30 08 06 03 55 04 0b 13 01 62 31 0a 30 08 06 03 55 04 0a 13 01 61 31 0a 30 08 06 03 55 04 0b 13 01 61",
		"OU=b,O=a,OU=a",
	},
	{
		api.Name{{Type: 6, Value: "AZ"}, {Type: 8, Value: "s"}, {Type: 7, Value: "l"}, {Type: 10, Value: "o"}, {Type: 11, Value: "u"}, {Type: 3, Value: "c"}, {Type: 5, Value: "n"}},
		"30 55 31 0b 30 09 06 03 55 04 06 13 02 41 5a 31 0a 30 08 06 03 55 04 08 13 01 73 31 0a 30 08 06 03 55 04 07 13 01 6c 31 0a 30 08 06 03 55 04 0a 13 01 6f" +
			"31 0a 30 08 06 03 55 04 0b 13 01 75 31 0a 30 08 06 03 55 04 03 13 01 63 31 0a 30 08 06 03 55 04 05 13 01 6e",
		"C=AZ,ST=s,L=l,O=o,OU=u,CN=c,SN=n",
	},
	{
		api.Name{{Type: 3, Value: strings.Repeat("a", 64)}},
		"30 4b 31 49 30 47 06 03 55 04 03 13 40" + strings.Repeat("61", 64),
		"CN=" + strings.Repeat("a", 64),
	},
	{ // lengths of two bytes and of three
		slices.Repeat(api.Name{{Type: 10, Value: strings.Repeat("_", 64)}}, 2),
		"30 81 96" + strings.Repeat("31 49 30 47 06 03 55 04 0a 0c 40"+strings.Repeat("5f", 64), 2),
		strings.Repeat(",O="+strings.Repeat("_", 64), 2)[1:],
	},
	{
		slices.Repeat(api.Name{{Type: 5, Value: strings.Repeat(",", 64)}}, 16),
		"30 82 04 b0" + strings.Repeat("31 49 30 47 06 03 55 04 05 13 40"+strings.Repeat("2c", 64), 16),
		strings.Repeat(",SN="+strings.Repeat(`\,`, 64), 16)[1:],
	},
}

// values are Values of each sort that the free types take.
func values() []string {
	l := []string{
		"a", "Z", "0", " ", "  ", " a ", "A  b", "O'Brien (x)", "a.b/c:d=e?f+g-h", "=", "a=b", "CN=a", "=,=", // of the kind 19
		",", ",,", ",,,", ",a", "a,", "a,b", "a,,b", ",a,", "CN=a,O=b",
		"@", "a@b", "*.a", "a_b", "\x00", "\n", "\t", "\x7f", "a\x00b", `"a"`, "a;b", "#a", "<a>", "&", // of 22
		`\`, `\\`, `\\\`, `\a`, `a\`, `a\b`, `a\\b`, `\,`, `,\`, `\,\`, `,\,`, `a\,b`, `a,\b`, `a\\,b`,
		"\u00e9", "caf\u00e9", "\u00e9,\u00e9", "\u20ac\\", "\U0001f600", "\u0080", "\u07ff", "\u0800", "\uffff", "\ufffd", "\ud7ff", "\ue000", "\U0010ffff", "\u212a", // of 12
	}
	for _, one := range []string{"a", ",", `\`, "@", "\u00e9", "\U0001f600"} {
		l = append(l, strings.Repeat(one, 64/len(one)))
	}
	return append(l, strings.Repeat("a", 63), strings.Repeat("a", 62)+"\u00e9", strings.Repeat(`\,`, 32))
}

// noValues are what no type takes.
func noValues() []string {
	return []string{
		"", "\xff", "\x80", "a\xff", "\xffa", "\xc3", "\xa9", "a\xc3", "\xc3a", "\xe2\x82", "\xf0\x9f\x98", // no UTF-8
		"\xc0\x80", "\xc1\xbf", "\xe0\x9f\xbf", "\xf0\x8f\xbf\xbf", "\xed\xa0\x80", "\xed\xbf\xbf", "\xf4\x90\x80\x80", "\xf8\x88\x80\x80\x80",
		strings.Repeat("a", 65), strings.Repeat(" ", 65), strings.Repeat("@", 65), strings.Repeat("a", 63) + "\u00e9", strings.Repeat("\u00e9", 33), strings.Repeat("\U0001f600", 16) + "a",
		strings.Repeat("a", 128), strings.Repeat("a", 255), strings.Repeat("a", 256), strings.Repeat("a", 257), strings.Repeat("a", 320), strings.Repeat("a", 4096), strings.Repeat("a", 4097), strings.Repeat("a", 1<<20),
	}
}

// noTypes are numbers that are no attribute's type.
func noTypes() []int {
	l := []int{0, 1, 2, 4, 9, 12, 13, 14, 15, 19, 22, 42, 46, 65, 127, 128, 255, -1, -3, -5, -6, -11}
	for _, k := range types {
		l = append(l, k+1<<8, k+1<<16, k+1<<31, k+1<<32, k-1<<32, math.MinInt+k)
	}
	return append(l, api.MaxArc, api.MaxArc+1, math.MaxInt, math.MinInt)
}

// goods are attributes of each sort that may be.
func goods() api.Name {
	var n api.Name
	for i, v := range values() {
		n = append(n, api.Attr{Type: free[i%len(free)], Value: v})
		if shapes[5].MatchString(v) {
			n = append(n, api.Attr{Type: 5, Value: v})
		}
	}
	for _, k := range free {
		for _, v := range []string{"a", "a@b", `,\`, strings.Repeat("\u00e9", 32)} {
			n = append(n, api.Attr{Type: k, Value: v})
		}
	}
	for _, v := range []string{"AA", "AZ", "ZA", "ZZ", "DE"} {
		n = append(n, api.Attr{Type: 6, Value: v})
	}
	return n
}

// wrongs are attributes of each sort that may not be.
func wrongs() api.Name {
	var n api.Name
	for _, k := range types {
		for _, v := range noValues() {
			n = append(n, api.Attr{Type: k, Value: v})
		}
	}
	for _, k := range noTypes() {
		for _, v := range []string{"a", "DE", "", "\xff"} {
			n = append(n, api.Attr{Type: k, Value: v})
		}
	}
	for _, v := range values() {
		if !shapes[5].MatchString(v) {
			n = append(n, api.Attr{Type: 5, Value: v})
		}
	}
	for _, v := range []string{"D", "DEU", "de", "De", "dE", "D1", "1D", "12", "D ", " D", "  ", "@A", "A@", "[Z", "Z[", "AA\x00", "D,", `\D`, "D\u00c4", "\u00c4", "\uff21", "D\xff", "\u00c4\u00c4", strings.Repeat("D", 64)} {
		n = append(n, api.Attr{Type: 6, Value: v})
	}
	return n
}

// names are those of each sort that may be.
func names() []api.Name {
	var l []api.Name
	for _, k := range known {
		l = append(l, k.n)
	}
	all := goods()
	for i, a := range all {
		l = append(l, api.Name{a}, api.Name{a, a}, api.Name{a, all[(i*7+3)%len(all)]}, api.Name{all[(i*5+1)%len(all)], a, {Type: 3, Value: "end"}})
	}
	for count := 1; count <= api.MaxAttrs; count++ {
		l = append(l, all[count:2*count])
	}
	return l
}

// shapes are what two types take.
var shapes = map[int]*regexp.Regexp{
	5: regexp.MustCompile(`\A[A-Za-z0-9 '()+,./:=?-]{1,64}\z`),
	6: regexp.MustCompile(`\A[A-Z]{2}\z`),
}

// may tells whether a name may be, by the chapter's words and the library.
func may(n api.Name) bool {
	for _, a := range n {
		shape := shapes[a.Type]
		if labels[a.Type] == "" || a.Value == "" || len(a.Value) > 64 || !utf8.ValidString(a.Value) || shape != nil && !shape.MatchString(a.Value) {
			return false
		}
	}
	return len(n) <= 16
}

// libraryBytes are those of a name that may be, by the library.
func libraryBytes(t *testing.T, n api.Name) []byte {
	t.Helper()
	rows := pkix.RDNSequence{}
	for _, a := range n {
		rows = append(rows, pkix.RelativeDistinguishedNameSET{{Type: asn1.ObjectIdentifier{2, 5, 4, a.Type}, Value: a.Value}})
	}
	b, err := asn1.Marshal(rows)
	if err != nil {
		t.Fatal(err)
	}
	return b
}

// libraryTakes is the name whose bytes the library finds these to be, and whether there is one.
func libraryTakes(t *testing.T, b []byte) (api.Name, bool) {
	t.Helper()
	var rows pkix.RDNSequence
	if _, err := asn1.Unmarshal(b, &rows); err != nil {
		return nil, false
	}
	var n api.Name
	for _, row := range rows {
		if len(row) != 1 || len(row[0].Type) != 4 {
			return nil, false
		}
		value, _ := row[0].Value.(string)
		n = append(n, api.Attr{Type: row[0].Type[3], Value: value})
	}
	if !may(n) || !bytes.Equal(libraryBytes(t, n), b) {
		return nil, false
	}
	return n, true
}

// textOf is the text of a name that may be, by the library.
func textOf(n api.Name) string {
	var l []string
	for _, a := range n {
		l = append(l, labels[a.Type]+"="+strings.NewReplacer(`\`, `\\`, `,`, `\,`).Replace(a.Value))
	}
	return strings.Join(l, ",")
}

// piece is the text of one attribute: its label and its Value.
var piece = regexp.MustCompile(`(?s)\A(CN|SN|C|L|ST|O|OU)=((?:[^,\\]|\\[,\\])+)\z`)

// nameOf is the name whose text s is, by the library, and whether there is one.
func nameOf(s string) (api.Name, bool) {
	if s == "" {
		return nil, true
	}
	var n api.Name
	for _, part := range pieces(s) {
		found := piece.FindStringSubmatch(part)
		if found == nil {
			return nil, false
		}
		for k, label := range labels {
			if label == found[1] {
				n = append(n, api.Attr{Type: k, Value: strings.NewReplacer(`\\`, `\`, `\,`, `,`).Replace(found[2])})
			}
		}
	}
	return n, may(n)
}

// pieces are those of a text, the other way: a comma ends one if an even number of \ stands ahead of it.
func pieces(s string) []string {
	var l []string
	begin := 0
	for at := range len(s) {
		ahead := s[:at]
		if s[at] == ',' && (at-len(strings.TrimRight(ahead, `\`)))%2 == 0 {
			l = append(l, s[begin:at])
			begin = at + 1
		}
	}
	return append(l, s[begin:])
}

// element is one of at most 65535 bytes.
func element(tag byte, content ...[]byte) []byte {
	b := slices.Concat(content...)
	length := []byte{byte(len(b))}
	if len(b) > 255 {
		length = []byte{0x82, byte(len(b) >> 8), byte(len(b))}
	} else if len(b) > 127 {
		length = []byte{0x81, byte(len(b))}
	}
	return slices.Concat([]byte{tag}, length, b)
}

// id is the element with an object identifier's content.
func id(digits string) []byte { return element(0x06, probe.Raw(digits)) }

// pair is what stands in an element 31.
func pair(parts ...[]byte) []byte { return element(0x30, parts...) }

// whole is the bytes of a name, of the bytes of what stands in its elements 31.
func whole(pairs ...[]byte) []byte {
	var l [][]byte
	for _, p := range pairs {
		l = append(l, element(0x31, p))
	}
	return element(0x30, l...)
}

// show is a name, to be read.
func show(n api.Name) string {
	s := ""
	for _, a := range n {
		s += fmt.Sprintf("{%d %q}", a.Type, a.Value)
		if len(s) > 1000 {
			return s[:1000] + ".."
		}
	}
	return "[" + s + "]"
}

// takes fails unless a name may be, and has these bytes and this text, which are read as it.
func takes(t *testing.T, n api.Name, b []byte, s string) {
	t.Helper()
	if !name.May(n) {
		t.Fatalf("May(%s): false", show(n))
	}
	if got, e := name.Encode(n); e != api.OK || !bytes.Equal(got, b) {
		t.Fatalf("Encode(%s): %x, error %d; want %x", show(n), got, e, b)
	}
	if got, e := name.Text(n); e != api.OK || got != s {
		t.Fatalf("Text(%s): %q, error %d; want %q", show(n), got, e, s)
	}
	if got, e := name.Decode(b); e != api.OK || !slices.Equal(got, n) {
		t.Fatalf("Decode(%x): %s, error %d; want %s", b, show(got), e, show(n))
	}
	if got, e := name.Parse(s); e != api.OK || !slices.Equal(got, n) {
		t.Fatalf("Parse(%q): %s, error %d; want %s", s, show(got), e, show(n))
	}
}

// refuses fails unless a name may not be.
func refuses(t *testing.T, n api.Name) {
	t.Helper()
	if name.May(n) {
		t.Fatalf("May(%s): true", show(n))
	}
	if b, e := name.Encode(n); e != api.ErrName || len(b) > 0 {
		t.Fatalf("Encode(%s): %x, error %d", show(n), b, e)
	}
	if s, e := name.Text(n); e != api.ErrName || s != "" {
		t.Fatalf("Text(%s): %q, error %d", show(n), s, e)
	}
}

// noBytes fails unless Decode answers this error, and else nothing.
func noBytes(t *testing.T, what string, b []byte, want api.Errno) {
	t.Helper()
	if n, e := name.Decode(b); e != want || len(n) > 0 {
		t.Errorf("%s: Decode(%.200x): %s, error %d; want error %d", what, b, show(n), e, want)
	}
}

// noText fails unless Parse says that it is no name's.
func noText(t *testing.T, s string) {
	t.Helper()
	if n, e := name.Parse(s); e != api.ErrName || len(n) > 0 {
		t.Errorf("Parse(%.200q): %s, error %d", s, show(n), e)
	}
}

// asLibrary fails unless Decode takes bytes where the library does, as the same name, and else answers der's error, or ErrName.
func asLibrary(t *testing.T, b []byte) bool {
	t.Helper()
	want, ok := libraryTakes(t, b)
	_, wrong := der.One(b)
	if wrong == api.OK && !ok {
		wrong = api.ErrName
	}
	if n, e := name.Decode(b); e != wrong || !slices.Equal(n, want) {
		t.Fatalf("Decode(%x): %s, error %d; the library: %s, %t; want error %d", b, show(n), e, show(want), ok, wrong)
	}
	return ok
}

// asExpression is the same of Parse and the expression.
func asExpression(t *testing.T, s string) bool {
	t.Helper()
	want, ok := nameOf(s)
	wrong := api.OK
	if !ok {
		want, wrong = nil, api.ErrName
	}
	if n, e := name.Parse(s); e != wrong || !slices.Equal(n, want) {
		t.Fatalf("Parse(%q): %s, error %d; want %s, error %d", s, show(n), e, show(want), wrong)
	}
	return ok
}
