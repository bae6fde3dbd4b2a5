package ext_test

import (
	"bytes"
	"runtime"
	"slices"
	"sync"
	"testing"
	"time"

	"chancery/api"
	"chancery/ext"
	"chancery/probe"
)

// P2: what is written is left as it is, spare room behind it too, what may not be as well; nor does that room count, nor is anything kept.
func TestArgumentsAreLeft(t *testing.T) {
	for _, f := range faces() {
		f.argumentsOf(t)
	}
}

func (k kind[T]) argumentsOf(t *testing.T) {
	t.Helper()
	w := probe.Writer[T]{What: k.what, Write: k.write, May: k.may, Roomy: k.roomy, Scribble: k.scribble}
	w.Own(t, slices.Concat(k.goods, k.wrongs)...)
}

// P2: bytes are left as they are, spare room behind them too, those that are nothing's as well; what is read is memory of its own.
func TestAnswersAreTheirOwn(t *testing.T) {
	for _, f := range faces() {
		f.Own(t)
	}
}

// P2: no two lists of one answer share memory: each may be written over, and made longer.
func TestListsOfOneAnswer(t *testing.T) {
	for _, l := range goodExts() {
		b, _ := ext.Encode(l)
		for i := range l {
			got, e := ext.Decode(b)
			if e != api.OK {
				t.Fatal(e)
			}
			probe.Scribble(got[i].Value, 0x77)
			_ = append(got[i].Value, "more and more and more and more"...)
			for j := range l {
				if i != j && !probe.SameExt(got[j], l[j]) {
					t.Fatalf("the Values %d and %d of %.300q share memory", i, j, show(l))
				}
			}
		}
	}
	for _, v := range trees().goods {
		b, _ := ext.Trees(v)
		for range 2 {
			got, e := ext.ToTrees(b)
			if e != api.OK {
				t.Fatal(e)
			}
			probe.Scribble(got.Permitted, api.Subtree{Kind: 2, Base: "scribbled"})
			if !slices.Equal(got.Excluded, v.Excluded) {
				t.Fatalf("what is permitted and excluded shares memory: %.300q", show(v))
			}
			got, _ = ext.ToTrees(b)
			probe.Scribble(got.Excluded, api.Subtree{Kind: 2, Base: "scribbled"})
			if !slices.Equal(got.Permitted, v.Permitted) {
				t.Fatalf("what is permitted and excluded shares memory: %.300q", show(v))
			}
		}
	}
}

// P2: what is found is memory of its own, and the list is left.
func TestFoundIsItsOwn(t *testing.T) {
	l := append(probe.ExtRow(16), api.Ext{Id: -1, Value: []byte("a")}, api.Ext{Id: 19, Value: []byte("b")})
	for _, want := range l[:17] {
		given, left := probe.RoomyExts(l)
		one, found1 := ext.Find(given, want.Id)
		two, found2 := ext.Find(given, want.Id)
		probe.Scribble(one.Value, 0x77)
		_ = append(one.Value, "more and more"...)
		three, found3 := ext.Find(given, want.Id)
		if !found1 || !found2 || !found3 || !left() || !probe.SameExt(two, want) || !probe.SameExt(three, want) {
			t.Fatalf("what is found of %d shares memory: %q, %q; the list is left: %t", want.Id, show(two), show(three), left())
		}
		probe.ScribbleExts(given)
		if !probe.SameExt(two, want) {
			t.Fatalf("what is found of %d shares the list's memory: %q", want.Id, show(two))
		}
		if _, found := ext.Find(l, 126); found {
			t.Fatal("126 is found")
		}
	}
}

// P3: nil lists and empty ones are alike.
func TestNoLists(t *testing.T) {
	exts().refuses(t, nil)
	exts().refuses(t, []api.Ext{})
	exts().refuses(t, probe.ExtRow(1)[:0])
	purposes().refuses(t, nil)
	purposes().refuses(t, []int{})
	names().refuses(t, nil)
	names().refuses(t, []api.General{})
	one := []api.Subtree{{Kind: 2, Base: "a"}}
	for _, none := range [][]api.Subtree{nil, {}, one[:0]} {
		trees().refuses(t, api.Trees{Permitted: none, Excluded: none})
		trees().takes(t, api.Trees{Permitted: one, Excluded: none}, raw("30 07 a0 05 30 03 82 01 61"))
		trees().takes(t, api.Trees{Permitted: none, Excluded: one}, raw("30 07 a1 05 30 03 82 01 61"))
	}
	for _, none := range [][]byte{nil, {}, []byte("a")[:0]} {
		exts().takes(t, []api.Ext{{Id: 19, Value: none}}, raw("30 09 30 07 06 03 55 1d 13 04 00"))
		for _, f := range faces() {
			f.None(t, "no bytes", none)
		}
		if x, found := ext.Find([]api.Ext{{Id: 19, Value: none}}, 19); !found || !probe.SameExt(x, api.Ext{Id: 19}) {
			t.Errorf("%q, %t", show(x), found)
		}
	}
	for _, none := range [][]api.Ext{nil, {}, probe.ExtRow(1)[:0]} {
		for _, id := range []int{0, 19, -1} {
			if x, found := ext.Find(none, id); found || !probe.SameExt(x, api.Ext{}) {
				t.Errorf("%q, %t", show(x), found)
			}
		}
	}
}

// P3, P5: the same is answered again, behind errors too, and no goroutine is left.
func TestNothingIsKept(t *testing.T) {
	before := runtime.NumGoroutine()
	for range 3 {
		for _, f := range faces() {
			f.againOf(t)
		}
	}
	for range 100 { // an earlier test's may end meanwhile, but none begins
		if runtime.NumGoroutine() <= before {
			return
		}
		time.Sleep(10 * time.Millisecond)
	}
	t.Errorf("%d goroutines, ahead of it %d", runtime.NumGoroutine(), before)
}

func (k kind[T]) againOf(t *testing.T) {
	t.Helper()
	l := k.Some()
	for i := range 40 {
		v, b := k.goods[i%len(l)], l[i%len(l)]
		k.None(t, "one byte fewer", b[:len(b)-1])
		k.takes(t, v, b)
		if len(k.wrongs) > 0 {
			k.refuses(t, k.wrongs[i%len(k.wrongs)])
		}
		k.takes(t, v, b)
		k.None(t, "one byte more", append(bytes.Clone(b), 0))
		k.takes(t, v, b)
	}
}

// P3: the same is answered to several that ask at once.
func TestAtOnce(t *testing.T) {
	var group sync.WaitGroup
	for range 8 {
		group.Go(func() {
			l := probe.ExtRow(5)
			for range 100 {
				b, e1 := ext.Encode(l)
				got, e2 := ext.Decode(b)
				_, e3 := ext.Decode(b[1:])
				v, e4 := ext.ToBasic([]byte("\x30\x03\x01\x01\xff"))
				_, e5 := ext.Purposes(1, 1)
				x, found := ext.Find(got, l[3].Id)
				if e1 != api.OK || e2 != api.OK || e3 != api.ErrExt || e4 != api.OK || e5 != api.ErrExt || !probe.SameExts(got, l) || v != (api.Basic{CA: true, Path: -1}) || !found || !probe.SameExt(x, l[3]) {
					t.Errorf("%q, %q, errors %d, %d, %d, %d, %d", show(got), show(v), e1, e2, e3, e4, e5)
				}
			}
		})
	}
	group.Wait()
}
