package probe_test

import (
	"bytes"
	"testing"

	"chancery/api"
	"chancery/probe"
)

// told is a test that counts what it is told fails.
type told struct{ count int }

func (t *told) Helper()               {}
func (t *told) Errorf(string, ...any) { t.count++ }
func (t *told) Fatalf(string, ...any) { t.count++; panic(t) }

// failed tells whether a test fails.
func failed(test func(t probe.Test)) bool {
	t := &told{}
	func() {
		defer func() { recover() }()
		test(t)
	}()
	return t.count > 0
}

// content is what an element 04 of at most 100 bytes holds that stands in an element 30.
func content(b []byte) ([]byte, bool) {
	if len(b) < 4 || len(b) > 104 || !bytes.Equal(b, probe.Put(0x30, probe.Put(4, b[4:]))) {
		return nil, false
	}
	return bytes.Clone(b[4:]), true
}

// contents is a face that reads it, and does it well.
func contents() probe.Reader[[]byte] {
	r := probe.Reader[[]byte]{What: "contents", Wrong: api.ErrExt, Parse: content, Same: bytes.Equal, Scribble: func(b []byte) { probe.Scribble(b, 0x77) }}
	r.Read = func(b []byte) ([]byte, api.Errno) {
		got, ok := content(b)
		if !ok {
			return nil, api.ErrExt
		}
		return got, api.OK
	}
	for n := range 101 {
		r.Samples = append(r.Samples, probe.Put(0x30, probe.Put(4, bytes.Repeat([]byte{5}, n))))
	}
	return r
}

// reading is such a face, but it reads in another way where that answers.
func reading(other func(b []byte) ([]byte, api.Errno, bool)) probe.Reader[[]byte] {
	r := contents()
	well := r.Read
	r.Read = func(b []byte) ([]byte, api.Errno) {
		if got, e, answers := other(b); answers {
			return got, e
		}
		return well(b)
	}
	return r
}

// takingAll takes some more bytes.
func takingAll(are func(b []byte) bool) probe.Reader[[]byte] {
	return reading(func(b []byte) ([]byte, api.Errno, bool) { return []byte("x"), api.OK, are(b) })
}

func elements(b []byte) [][]byte {
	return [][]byte{probe.Put(0x30, b), probe.Put(0x30, probe.Put(4, b))}
}

// batteries are all that is held against a face.
func batteries() map[string]func(t probe.Test, f probe.Face) {
	return map[string]func(t probe.Test, f probe.Face){
		"Taken":         probe.Taken,
		"CutShort":      func(t probe.Test, f probe.Face) { probe.CutShort(t, f, 40, 10) },
		"OneByte":       func(t probe.Test, f probe.Face) { probe.OneByte(t, f, 104, 5) },
		"OneElement":    func(t probe.Test, f probe.Face) { probe.OneElement(t, f, 40, 10, "02 01 05") },
		"LongerLengths": func(t probe.Test, f probe.Face) { probe.LongerLengths(t, f, 104, 10) },
		"OtherKinds":    func(t probe.Test, f probe.Face) { probe.OtherKinds(t, f, contents(), 104, 10) },
		"OfAny":         func(t probe.Test, f probe.Face) { probe.OfAny(t, f, 200, elements) },
		"VeryMany":      func(t probe.Test, f probe.Face) { probe.VeryMany(t, f, []byte{4, 0x30}, []byte{5, 0}, []byte{7}) },
		"Own":           func(t probe.Test, f probe.Face) { f.Own(t) },
	}
}

func TestGoodFace(t *testing.T) {
	for what, battery := range batteries() {
		if failed(func(t probe.Test) { battery(t, contents()) }) {
			t.Errorf("%s: a good face fails", what)
		}
	}
}

// Faces that do something wrong, and what must find it.
func TestWrongFaces(t *testing.T) {
	var last []byte
	for what, c := range map[string]struct {
		battery string
		face    probe.Face
	}{
		"not all are taken": {"Taken", reading(func(b []byte) ([]byte, api.Errno, bool) { return nil, api.ErrExt, len(b) == 50 })},
		"another is told":   {"Taken", reading(func(b []byte) ([]byte, api.Errno, bool) { return []byte("x"), api.OK, len(b) == 104 })},
		"a byte fewer":      {"CutShort", takingAll(func(b []byte) bool { return len(b) > 4 && int(b[1]) == len(b)-1 })},
		"no bytes":          {"CutShort", takingAll(func(b []byte) bool { return len(b) == 0 })},
		"the last byte of those that may be behind": {"CutShort", takingAll(func(b []byte) bool { return len(b) > 1 && b[len(b)-1] == 0xff })},
		"twice":                     {"CutShort", takingAll(func(b []byte) bool { return len(b) == 4*2 })},
		"an element behind":         {"CutShort", takingAll(func(b []byte) bool { return bytes.HasSuffix(b, []byte{5, 0}) })},
		"no first byte":             {"CutShort", takingAll(func(b []byte) bool { return len(b) == 12 && b[0] == 11 })},
		"something beside an error": {"CutShort", reading(func(b []byte) ([]byte, api.Errno, bool) { return b, api.ErrExt, len(b) == 3 })},
		"another error":             {"CutShort", reading(func(b []byte) ([]byte, api.Errno, bool) { return nil, api.ErrCert, len(b) == 3 })},
		"another tag":               {"OneByte", takingAll(func(b []byte) bool { return len(b) > 3 && b[0] == 0x31 && int(b[1]) == len(b)-2 })},
		"another byte at the end":   {"OneByte", takingAll(func(b []byte) bool { return len(b) > 4 && b[len(b)-1] == 4 })},
		"a byte less within":        {"OneByte", takingAll(func(b []byte) bool { return bytes.HasPrefix(b, []byte{0x30, 4, 4}) })},
		"a byte more within":        {"OneByte", takingAll(func(b []byte) bool { return bytes.HasPrefix(b, []byte{0x30, 0x30}) })},
		"nothing is taken":          {"OneByte", reading(func([]byte) ([]byte, api.Errno, bool) { return nil, api.ErrExt, true })},
		"an element twice":          {"OneElement", takingAll(func(b []byte) bool { return bytes.Equal(b, probe.Raw("30 04 04 00 04 00")) })},
		"a stranger":                {"OneElement", takingAll(func(b []byte) bool { return bytes.Equal(b, probe.Raw("30 05 04 00 02 01 05")) })},
		"a longer length":           {"LongerLengths", takingAll(func(b []byte) bool { return bytes.HasPrefix(b, []byte{0x30, 0x81}) })},
		"no length":                 {"LongerLengths", takingAll(func(b []byte) bool { return bytes.Contains(b, []byte{4, 0x80}) })},
		"another kind's bytes":      {"OtherKinds", takingAll(func(b []byte) bool { return len(b) == 14 && b[0] == 0x30 })},
		"another kind":              {"OtherKinds", takingAll(func(b []byte) bool { return bytes.HasPrefix(b, []byte{4, 14, 0x30}) })},
		"another kind within":       {"OtherKinds", takingAll(func(b []byte) bool { return bytes.HasPrefix(b, []byte{0x30, 14, 0x30}) })},
		"another kind's parts":      {"OtherKinds", takingAll(func(b []byte) bool { return bytes.HasPrefix(b, []byte{4, 10, 5}) })},
		"a short row":               {"OfAny", takingAll(func(b []byte) bool { return bytes.Equal(b, []byte{0x30, 0, 0xff, 1}) })},
		"what looks like chance":    {"OfAny", takingAll(func(b []byte) bool { return len(b) == 89 && b[0] != 0x30 })},
		"chance in an element":      {"OfAny", takingAll(func(b []byte) bool { return len(b) == 91 && b[0] == 0x30 && b[2] != 4 })},
		"very many":                 {"VeryMany", takingAll(func(b []byte) bool { return len(b) == 1<<17 && b[0] == 7 })},
		"very many in one":          {"VeryMany", takingAll(func(b []byte) bool { return len(b) == 1<<17+5 && b[0] == 0x30 })},
		"very many in two":          {"VeryMany", takingAll(func(b []byte) bool { return len(b) == 1<<17+10 && b[0] == 0x30 })},
		"very many in two, twice":   {"VeryMany", takingAll(func(b []byte) bool { return len(b) == 1<<18+15 })},
		"very many in three":        {"VeryMany", takingAll(func(b []byte) bool { return len(b) == 1<<17+15 && b[5] == 0x30 })},
		"in three, otherwise":       {"VeryMany", takingAll(func(b []byte) bool { return len(b) == 1<<17+15 && b[5] == 0xa0 })},
		"very deep":                 {"VeryMany", takingAll(func(b []byte) bool { return len(b) > 4000 && len(b) < 10000 })},
		"too long":                  {"VeryMany", takingAll(func(b []byte) bool { return len(b) > api.MaxContent })},
		"no samples":                {"Own", reading(func([]byte) ([]byte, api.Errno, bool) { return nil, api.ErrExt, true })},
		"memory of the bytes":       {"Own", reading(func(b []byte) ([]byte, api.Errno, bool) { _, ok := content(b); return b[min(len(b), 4):], api.OK, ok })},
		"memory of an answer": {"Own", reading(func(b []byte) ([]byte, api.Errno, bool) {
			got, ok := content(b)
			if !bytes.Equal(got, last) {
				last = got
			}
			return last, api.OK, ok
		})},
		"bytes are changed":         {"Own", reading(func(b []byte) ([]byte, api.Errno, bool) { probe.Scribble(b[len(b):], 1); return nil, api.OK, false })},
		"no element's are changed":  {"Own", reading(func(b []byte) ([]byte, api.Errno, bool) { return nil, api.ErrExt, changed(b, b[0] != 0x30) })},
		"those cut are changed":     {"Own", reading(func(b []byte) ([]byte, api.Errno, bool) { return nil, api.ErrExt, changed(b, int(b[1]) > len(b)-2) })},
		"those with one more, also": {"Own", reading(func(b []byte) ([]byte, api.Errno, bool) { return nil, api.ErrExt, changed(b, int(b[1]) < len(b)-2) })},
	} {
		if !failed(func(t probe.Test) { batteries()[c.battery](t, c.face) }) {
			t.Errorf("%s: %s finds nothing", what, c.battery)
		}
	}
}

// changed changes bytes, if they are such as it wants.
func changed(b []byte, such bool) bool {
	if such {
		b[0]++
	}
	return such
}

func TestSample(t *testing.T) {
	for _, c := range []struct{ longest, most, want int }{{104, 200, 101}, {104, 101, 101}, {104, 50, 51}, {4, 10, 1}, {13, 3, 4}} {
		l := probe.Sample(t, contents(), c.longest, c.most)
		if len(l) != c.want || len(l[0]) != 4 {
			t.Errorf("of at most %d bytes, some %d: %d", c.longest, c.most, len(l))
		}
		for _, b := range l {
			if len(b) > c.longest || !contents().Is(b) {
				t.Errorf("%x", b)
			}
		}
	}
	if !failed(func(t probe.Test) { probe.Sample(t, contents(), 3, 10) }) {
		t.Error("there are samples of 3 bytes")
	}
}
