package probe_test

import (
	"slices"
	"testing"

	"chancery/api"
	"chancery/probe"
)

// writing is a call that writes in this way, of which bytes of less than 10 may be.
func writing(write func(b []byte) ([]byte, api.Errno)) probe.Writer[[]byte] {
	return probe.Writer[[]byte]{
		What:     "writing",
		Write:    write,
		May:      func(b []byte) bool { return len(b) < 10 },
		Roomy:    func(b []byte) ([]byte, func() bool) { l, left := probe.RoomyPieces(b); return l[0], left },
		Scribble: func(b []byte) { probe.Scribble(b, 0x77) },
	}
}

// writes writes well.
func writes(b []byte) ([]byte, api.Errno) {
	if len(b) >= 10 {
		return nil, api.ErrExt
	}
	return probe.Put(4, b), api.OK
}

// Calls that write well, or wrongly, and whether that is found.
func TestWriter(t *testing.T) {
	var kept []byte
	calls, turns := 0, 0
	for what, c := range map[string]struct {
		write func(b []byte) ([]byte, api.Errno)
		wrong bool
	}{
		"well":                    {writes, false},
		"all may be":              {func(b []byte) ([]byte, api.Errno) { return probe.Put(4, b), api.OK }, true},
		"one may not be":          {func(b []byte) ([]byte, api.Errno) { return nil, api.ErrExt }, true},
		"what is given":           {func(b []byte) ([]byte, api.Errno) { _, e := writes(b); return b, e }, true},
		"in the spare room":       {func(b []byte) ([]byte, api.Errno) { _, e := writes(b); return append(b, 5), e }, true},
		"changes it":              {func(b []byte) ([]byte, api.Errno) { changed(b, len(b) == 5); return writes(b) }, true},
		"changes what may not be": {func(b []byte) ([]byte, api.Errno) { changed(b, len(b) == 12); return writes(b) }, true},
		"what is given, at times": {func(b []byte) ([]byte, api.Errno) {
			_, e := writes(b)
			if turns++; turns%2 == 0 {
				return b, e
			}
			return slices.Clone(b), e
		}, true},
		"refuses at times": {func(b []byte) ([]byte, api.Errno) {
			if calls++; calls == 2 {
				return nil, api.ErrExt
			}
			return writes(b)
		}, true},
		"keeps its answer": {func(b []byte) ([]byte, api.Errno) {
			own, e := writes(b)
			if !slices.Equal(own, kept) {
				kept = own
			}
			return kept, e
		}, true},
	} {
		if failed(func(t probe.Test) { writing(c.write).Own(t, []byte("abc"), []byte("abcde"), []byte("abcdefghijkl")) }) != c.wrong {
			t.Errorf("%s: wrong %t", what, !c.wrong)
		}
	}
}
