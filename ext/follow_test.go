package ext_test

import (
	"bytes"
	"slices"
	"testing"

	"chancery/api"
	"chancery/probe"
)

// P15.4: what is read of bytes that were written is what was written; what is read, written again, is the bytes.
func TestThereAndBack(t *testing.T) {
	for _, f := range faces() {
		f.thereAndBackOf(t)
	}
}

func (k kind[T]) thereAndBackOf(t *testing.T) {
	t.Helper()
	seen := map[string]T{}
	for _, v := range k.goods {
		b, e1 := k.write(v)
		got, e2 := k.read(b)
		again, e3 := k.write(got)
		if e1 != api.OK || e2 != api.OK || e3 != api.OK || !k.same(got, v) || !bytes.Equal(again, b) {
			t.Fatalf("%s: %.300q, written as %.300x, is read as %.300q, and written again as %.300x, errors %d, %d, %d", k.what, show(v), b, show(got), again, e1, e2, e3)
		}
		if was, there := seen[string(b)]; there && !k.same(was, v) {
			t.Fatalf("%s: %.300x are the bytes of %.300q and of %.300q", k.what, b, show(was), show(v))
		}
		seen[string(b)] = v
	}
}

// P15.4: the same of values that look like chance, and of bytes that are one byte away from theirs.
func TestThereAndBackDrawn(t *testing.T) {
	var draws probe.Draws
	generals, subtrees := goodNames(), goodTrees()
	extKind, usageKind, purposeKind, nameKind, treeKind, numberKind := exts(), usages(), purposes(), names(), trees(), numbers()
	for range 300 {
		extKind.back(t, drawnExts(&draws), &draws)
		usageKind.back(t, uint16(1+draws.Next()%511), &draws)
		purposeKind.back(t, drawnNumbers(&draws), &draws)
		nameKind.back(t, drawn(&draws, generals, 1+draws.Next()%16), &draws)
		treeKind.back(t, api.Trees{Permitted: drawn(&draws, subtrees, draws.Next()%17), Excluded: drawn(&draws, subtrees, 1+draws.Next()%16)}, &draws)
		numberKind.back(t, int(draws.Next()>>(1+draws.Next()%63)), &draws)
	}
}

// back fails unless a value is read of its bytes, and of bytes near them what is written as these.
func (k kind[T]) back(t *testing.T, v T, draws *probe.Draws) {
	t.Helper()
	k.asWords(t, v)
	b, _ := k.write(v)
	for range 10 {
		near := []byte(draws.Changed(string(b), "\x00\x01\x02\x03\x04\x06\x13\x30\x55\x1d\x80\x81\x82\x87\xa0\xa1\xa4\xffaz"))
		k.AsShould(t, near)
		if got, e := k.read(near); e == api.OK {
			if again, e := k.write(got); e != api.OK || !bytes.Equal(again, near) {
				t.Fatalf("%s: %.300x, read as %.300q, is written as %.300x, error %d", k.what, near, show(got), again, e)
			}
		}
	}
}

// drawn are n ones out of a list.
func drawn[T any](draws *probe.Draws, l []T, n uint64) []T {
	var out []T
	for range n {
		out = append(out, l[draws.Next()%uint64(len(l))])
	}
	return out
}

// drawnNumbers are numbers of purposes, no two the same.
func drawnNumbers(draws *probe.Draws) []int {
	var l []int
	for range 1 + draws.Next()%16 {
		if n := 1 + int(draws.Next()%127); !slices.Contains(l, n) {
			l = append(l, n)
		}
	}
	return l
}

// drawnExts are extensions of different Ids.
func drawnExts(draws *probe.Draws) []api.Ext {
	var l []api.Ext
	for _, id := range drawnNumbers(draws) {
		l = append(l, api.Ext{Id: id, Critical: draws.Next()%2 == 0, Value: draws.Bytes(int(draws.Next() % 300))})
	}
	return l
}
