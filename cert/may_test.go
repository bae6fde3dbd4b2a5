package cert_test

import (
	"testing"

	"chancery/api"
	"chancery/cert"
	"chancery/probe"
)

// mayAsWords fails unless May, and Body, are as the chapter's words are.
func mayAsWords(t *testing.T, c api.Cert) bool {
	t.Helper()
	want := mayBe(c)
	if got := cert.May(c); got != want {
		t.Fatalf("May(%.600s): %t", show(c), got)
	}
	if !want {
		refuses(t, c)
	}
	return want
}

// P16.1, P16.2: certificates of each sort that may be, and that may not.
func TestMay(t *testing.T) {
	for _, c := range goods() {
		if !mayAsWords(t, c) {
			t.Errorf("%.600s may not be", show(c))
		}
	}
	for _, c := range wrongs() {
		if mayAsWords(t, c) {
			t.Errorf("%.600s may be", show(c))
		}
	}
}

// P16.1: what is wrong with two parts is wrong, whatever they are.
func TestMayOfTwo(t *testing.T) {
	changes := []func(c *api.Cert){
		func(c *api.Cert) { c.Serial = nil },
		func(c *api.Cert) { c.Serial = []byte{0, 1} },
		func(c *api.Cert) { c.Issuer = probe.Attrs(17) },
		func(c *api.Cert) { c.Subject = probe.Named("") },
		func(c *api.Cert) { c.From = 101 },
		func(c *api.Cert) { c.From = api.MinTime - 1 },
		func(c *api.Cert) { c.To = api.MaxTime + 1 },
		func(c *api.Cert) { c.Key = api.Point{Inf: true} },
		func(c *api.Cert) { c.Key.X[0]++ },
		func(c *api.Cert) { c.Exts = probe.NoExtLists()[0] },
	}
	for _, one := range changes {
		for _, other := range changes {
			if mayAsWords(t, but(func(c *api.Cert) { one(c); other(c) })) {
				t.Error("what is wrong twice may be")
			}
		}
	}
}

// P16.1: serial numbers by how many bytes they have, and by the first one.
func TestMaySerials(t *testing.T) {
	for n := range 40 {
		for first := range 256 {
			c := but(func(c *api.Cert) { c.Serial = append([]byte{byte(first)}, make([]byte, n)...) })
			most := 20
			if first >= 128 {
				most = 19 // since a byte 0 must stand ahead
			}
			if got := mayAsWords(t, c); got != (first > 0 && n+1 <= most) {
				t.Errorf("the serial number %x: %t", c.Serial, got)
			}
		}
	}
}

// P16.1: From and To next to one another, everywhere where something changes.
func TestMayTimes(t *testing.T) {
	for _, middle := range []int{api.MinTime, 0, 5, turn, api.MaxTime} {
		for from := middle - 2; from <= middle+2; from++ {
			for to := middle - 2; to <= middle+2; to++ {
				c := but(func(c *api.Cert) { c.From, c.To = from, to })
				if got := mayAsWords(t, c); got != (from >= -631152000 && from <= to && to <= 253402300799) {
					t.Errorf("from %d to %d: %t", from, to, got)
				}
			}
		}
	}
}

// P16.1: as many attributes and extensions as may be, and more.
func TestMayCounts(t *testing.T) {
	for n := range 40 {
		for _, c := range []api.Cert{
			but(func(c *api.Cert) { c.Issuer = probe.Attrs(n) }),
			but(func(c *api.Cert) { c.Subject = probe.Attrs(n) }),
			but(func(c *api.Cert) { c.Exts = probe.ExtRow(n) }),
		} {
			if got := mayAsWords(t, c); got != (n <= 16) {
				t.Errorf("%d attributes, or extensions: %t", n, got)
			}
		}
	}
	if c := but(func(c *api.Cert) { c.Exts = probe.LongExts() }); !mayAsWords(t, c) {
		t.Error("the longest extensions may not be")
	}
}
