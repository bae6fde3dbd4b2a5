package name_test

import (
	"bytes"
	"slices"
	"testing"

	"chancery/api"
	"chancery/name"
	"chancery/probe"
)

// drawn is a name that looks like chance: of attributes that may be.
func drawn(draws *probe.Draws) api.Name {
	all := goods()
	var n api.Name
	for range draws.Next() % (api.MaxAttrs + 1) {
		n = append(n, all[draws.Next()%uint64(len(all))])
	}
	return n
}

// P12.6: Decode of Encode, and Parse of Text, is the name.
func TestThereAndBack(t *testing.T) {
	var draws probe.Draws
	for range 2000 {
		n := drawn(&draws)
		b, e1 := name.Encode(n)
		s, e2 := name.Text(n)
		fromBytes, e3 := name.Decode(b)
		fromText, e4 := name.Parse(s)
		if e1 != api.OK || e2 != api.OK || e3 != api.OK || e4 != api.OK || !slices.Equal(fromBytes, n) || !slices.Equal(fromText, n) {
			t.Fatalf("%s: %x and %q, read as %s and %s, errors %d, %d, %d, %d", show(n), b, s, show(fromBytes), show(fromText), e1, e2, e3, e4)
		}
	}
}

// P12.6: what Decode, or Parse, takes is what Encode, or Text, tells of it: of all that are one byte away from a name's.
func TestBackAndThere(t *testing.T) {
	var draws probe.Draws
	taken := 0
	for range 300 {
		n := drawn(&draws)
		b := libraryBytes(t, n)
		s := []byte(textOf(n))
		for range 30 {
			b := bytes.Clone(b)
			b[draws.Next()%uint64(len(b))] = byte(draws.Next())
			if n, e := name.Decode(b); e == api.OK {
				taken++
				if again, e := name.Encode(n); e != api.OK || !bytes.Equal(again, b) {
					t.Fatalf("%x, read as %s, is written as %x, error %d", b, show(n), again, e)
				}
			}
			if len(s) == 0 {
				continue
			}
			s := bytes.Clone(s)
			s[draws.Next()%uint64(len(s))] = `,\=aCN`[draws.Next()%6]
			if n, e := name.Parse(string(s)); e == api.OK {
				taken++
				if again, e := name.Text(n); e != api.OK || again != string(s) {
					t.Fatalf("%q, read as %s, is told as %q, error %d", s, show(n), again, e)
				}
			}
		}
	}
	if taken < 1000 {
		t.Errorf("only %d are taken", taken)
	}
}

// P12.6: names have the same bytes, or the same text, just if they are equal; those that are alike alone have others.
func TestOneForm(t *testing.T) {
	bytesOf, texts := map[string]api.Name{}, map[string]api.Name{}
	for _, n := range append(names(), of("A  b"), of("a B"), of("A b"), of("a", "b"), of("a,CN=b"), of(`a\`, "b"), of(`a\,CN=b`)) {
		b, _ := name.Encode(n)
		s, _ := name.Text(n)
		if was, there := bytesOf[string(b)]; there && !slices.Equal(was, n) {
			t.Errorf("%x are the bytes of %s and of %s", b, show(was), show(n))
		}
		if was, there := texts[s]; there && !slices.Equal(was, n) {
			t.Errorf("%q is the text of %s and of %s", s, show(was), show(n))
		}
		bytesOf[string(b)], texts[s] = n, n
	}
}
