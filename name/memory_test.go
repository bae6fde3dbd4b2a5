package name_test

import (
	"bytes"
	"runtime"
	"slices"
	"strings"
	"sync"
	"testing"
	"unsafe"

	"chancery/api"
	"chancery/name"
	"chancery/probe"
)

// roomy is a name with spare room behind it that must not be touched; whole is both.
func roomy(n api.Name) (part, whole api.Name) {
	whole = append(slices.Clone(n), slices.Repeat(of("spare"), 20)...)
	return whole[:len(n):len(whole)], whole
}

// scribble writes over a name, and over all the spare room behind it.
func scribble(n api.Name) {
	n = n[:cap(n)]
	for i := range n {
		n[i] = api.Attr{Type: 11, Value: "scribbled"}
	}
}

// share tells whether two texts have memory in common.
func share(a, b string) bool {
	if a == "" || b == "" {
		return false
	}
	x, y := uintptr(unsafe.Pointer(unsafe.StringData(a))), uintptr(unsafe.Pointer(unsafe.StringData(b)))
	return x < y+uintptr(len(b)) && y < x+uintptr(len(a))
}

// P2: names are left as they are, the spare room behind them too, by what is refused as well; nor does that room count.
func TestNamesAreLeft(t *testing.T) {
	l := names()
	for _, a := range wrongs() {
		l = append(l, api.Name{a}, append(of("a"), a))
	}
	for _, n := range append(l, slices.Repeat(of("a"), 17)) {
		part, all := roomy(n)
		was := slices.Clone(all)
		if name.May(part) != may(n) {
			t.Fatalf("May(%s): %t", show(part), name.May(part))
		}
		name.Encode(part)
		name.Text(part)
		if !name.Same(part, n) || !name.Begins(part, n) || !name.Begins(n, part) || name.Same(part, all) {
			t.Fatalf("%s is not the same as itself", show(part))
		}
		if !slices.Equal(all, was) {
			t.Fatalf("%s is changed", show(n))
		}
	}
}

// P2: what is told of a name stays when the name is written over, and when another answer is.
func TestAnswersAreTheirOwn(t *testing.T) {
	for _, n := range names() {
		wantBytes, wantText := libraryBytes(t, n), textOf(n)
		part, _ := roomy(n)
		one, _ := name.Encode(part)
		two, _ := name.Encode(part)
		s, _ := name.Text(part)
		probe.Scribble(one, 0x77)
		scribble(part)
		if three, _ := name.Encode(n); !bytes.Equal(two, wantBytes) || !bytes.Equal(three, wantBytes) || s != wantText {
			t.Fatalf("an answer shares memory: %x, %x, %q", two, three, s)
		}
	}
}

// P2: names that are read share memory with nothing; bytes are left as they are.
func TestReadNamesAreTheirOwn(t *testing.T) {
	for _, n := range names() {
		b, all := probe.Roomy(libraryBytes(t, n))
		was := bytes.Clone(all)
		s := textOf(n)
		for what, call := range map[string]func() (api.Name, api.Errno){
			"Decode": func() (api.Name, api.Errno) { return name.Decode(b) },
			"Parse":  func() (api.Name, api.Errno) { return name.Parse(s) },
		} {
			one, e1 := call()
			two, e2 := call()
			scribble(one)
			three, e3 := call()
			if e1 != api.OK || e2 != api.OK || e3 != api.OK || !slices.Equal(two, n) || !slices.Equal(three, n) {
				t.Fatalf("%s: %s and %s, errors %d, %d, %d", what, show(two), show(three), e1, e2, e3)
			}
		}
		kept, _ := name.Decode(b)
		if !bytes.Equal(all, was) {
			t.Fatalf("Decode changes its bytes, %x", b)
		}
		probe.Scribble(b, 0x55)
		if !slices.Equal(kept, n) {
			t.Fatalf("Decode keeps its bytes: %s", show(kept))
		}
	}
	for _, b := range [][]byte{{}, {0x31, 0}, {0x30, 1}, {0x30, 0, 0}, whole(nil), whole(pair(rightId, element(0x0c, []byte("a"))))} {
		given, left := probe.RoomyPieces(b)
		if _, e := name.Decode(given[0]); e == api.OK || !left() {
			t.Errorf("Decode(%x): error %d, left %t", b, e, left())
		}
	}
}

// P2: texts that are answered share no memory with the argument, nor with another answer.
func TestTextsAreTheirOwn(t *testing.T) {
	s := strings.Repeat("CN=some value,", 10) + `CN=with a \, and a \\`
	n, e := name.Parse(s)
	again, _ := name.Parse(s)
	if e != api.OK || len(n) != 11 {
		t.Fatalf("Parse: %s, error %d", show(n), e)
	}
	one, _ := name.Text(n)
	two, _ := name.Text(n)
	single, _ := name.Text(n[:1])
	l := []string{s, "one piece", one, two, single}
	for _, text := range l[:2] {
		parts := name.Parts(text)
		l = slices.Concat(l, slices.Collect(parts), slices.Collect(parts))
	}
	for _, a := range slices.Concat(n, again) {
		l = append(l, a.Value)
	}
	for i, a := range l {
		for j, b := range l[:i] {
			if share(a, b) {
				t.Errorf("the texts %d and %d, %q and %q, share memory", j, i, b, a)
			}
		}
	}
}

// P3, P5: the same is told again, behind errors too, and no goroutine is left.
func TestNothingIsKept(t *testing.T) {
	before := runtime.NumGoroutine()
	for range 20 {
		for _, k := range known {
			refuses(t, append(slices.Clone(k.n), api.Attr{Type: 4, Value: "a"}))
			asLibrary(t, probe.Raw(k.bytes)[1:])
			asLibrary(t, probe.Raw(k.bytes+"00"))
			noText(t, k.text+`\`)
			for range name.Parts(k.text) {
				break
			}
			takes(t, k.n, probe.Raw(k.bytes), k.text)
			stands(t, k.n, k.n, true, true)
		}
	}
	if after := runtime.NumGoroutine(); after > before {
		t.Errorf("%d goroutines, ahead of it %d", after, before)
	}
}

// P3: the same is told to several that ask at once.
func TestAtOnce(t *testing.T) {
	parts := name.Parts(`a,b\,c,`)
	var group sync.WaitGroup
	for range 8 {
		group.Go(func() {
			for _, k := range known {
				b, e1 := name.Encode(k.n)
				s, e2 := name.Text(k.n)
				if e1 != api.OK || e2 != api.OK || !bytes.Equal(b, probe.Raw(k.bytes)) || s != k.text || !slices.Equal(slices.Collect(parts), []string{"a", `b\,c`, ""}) {
					t.Errorf("%s: %x, %q, errors %d and %d", show(k.n), b, s, e1, e2)
				}
			}
		})
	}
	group.Wait()
}
