package sha_test

import (
	"testing"

	"chancery/sha"
)

// P8.2: the chapter's words, step by step.
func TestHash(t *testing.T) {
	h := sha.New()
	if h == nil || h.Len() != 0 {
		t.Fatalf("New: %v, Len %d", h, h.Len())
	}
	is(t, "of no bytes", h.Sum(), sha.Sum())
	write(t, h, []byte("a"))
	write(t, h, []byte("b"), []byte("c"))
	is(t, "abc", h.Sum(), digest("ba7816bf 8f01cfea 414140de 5dae2223 b00361a3 96177a9c b410ff61 f20015ad"))
	if h.Len() != 3 {
		t.Error(h.Len())
	}
}

// P8.3: likewise, with a key.
func TestKeyed(t *testing.T) {
	k := sha.Key([]byte("Jefe"))
	if k == nil {
		t.Fatal("Key: nil")
	}
	is(t, "of no bytes", k.Sum(), sha.Mac([]byte("Jefe")))
	write(t, k, []byte("what do ya "))
	write(t, k, []byte("want for "), nil, []byte("nothing?"))
	is(t, "Sum", k.Sum(), digest("5bdcc146 bf60754e 6a042426 089575c7 5a003f08 9d273983 9dec58b9 64ec3843"))
}

// P8.2, P8.3: byte by byte, Sum and Len asked twice at each step, which changes nothing.
func TestByteByByte(t *testing.T) {
	b := text(260)
	for _, m := range makers() {
		h := m.make()
		m.tells(t, h, nil)
		for i := range b {
			write(t, h, b[i:i+1])
			m.tells(t, h, b[:i+1])
			m.tells(t, h, b[:i+1])
		}
	}
}

// P8.2, P8.3: Sums that are never asked in between change nothing either.
func TestSumAtTheEnd(t *testing.T) {
	b := text(260)
	for _, m := range makers() {
		h := m.make()
		for i := range b {
			write(t, h, b[i:i+1])
		}
		m.tells(t, h, b)
	}
}

// P8.2, P8.3: pieces of all pairs of lengths, asked between them.
func TestPairs(t *testing.T) {
	for _, m := range makers() {
		for _, i := range lengths {
			for _, j := range lengths {
				b := text(i + j)
				h := m.make()
				write(t, h, b[:i])
				m.tells(t, h, b[:i])
				write(t, h, b[i:])
				m.tells(t, h, b)
			}
		}
	}
}

// P8.2, P8.3: no pieces, and empty ones, at each place of a block.
func TestWriteOfNothing(t *testing.T) {
	for _, m := range makers() {
		for _, n := range lengths {
			b := text(n)
			h := m.make()
			write(t, h, b)
			for _, none := range [][][]byte{nil, {}, {nil}, {{}}, {nil, {}, nil}} {
				write(t, h, none...)
				m.tells(t, h, b)
			}
			write(t, h, nil, []byte{7}, nil)
			m.tells(t, h, append(b, 7))
		}
	}
}

// P8.2: a copy at each place of a block: both go on by turns, and neither sees what the other takes.
func TestCopy(t *testing.T) {
	for n := range 130 {
		one := sha.New()
		write(t, one, text(n))
		other := one.Copy()
		if other == nil || other == one {
			t.Fatalf("of %d bytes: Copy: %p of %p", n, other, one)
		}
		m := makers()[0]
		a, b := text(n), text(n)
		m.tells(t, one, a)
		m.tells(t, other, b)
		for i := range 70 {
			a = append(a, byte(i))
			write(t, one, a[len(a)-1:])
			m.tells(t, other, b)
			b = append(b, byte(i)+1, 9)
			write(t, other, b[len(b)-2:])
			m.tells(t, one, a)
			m.tells(t, other, b)
		}
	}
}

// P8.2: copies of copies, of which each goes its own way.
func TestCopies(t *testing.T) {
	m := makers()[0]
	for _, n := range lengths {
		hashes, texts := []*sha.Hash{sha.New()}, [][]byte{nil}
		for i := range 6 {
			for j := range hashes {
				hashes = append(hashes, hashes[j].Copy())
				texts = append(texts, append([]byte(nil), texts[j]...))
				piece := text(n + i)
				write(t, hashes[j], piece)
				texts[j] = append(texts[j], piece...)
			}
		}
		for j, h := range hashes {
			m.tells(t, h, texts[j])
		}
	}
}

// P8.2, P8.3: many of them at the same time, written by turns, have nothing in common.
func TestByTurns(t *testing.T) {
	l := makers()
	var all []taker
	for range 2 {
		for _, m := range l {
			all = append(all, m.make())
		}
	}
	b := text(500)
	for i := 0; i < len(b); i += 25 {
		for j, h := range all {
			if j%2 == 0 || i%50 == 0 {
				write(t, h, b[i:i+25])
			}
		}
	}
	var half []byte
	for i := 0; i < len(b); i += 50 {
		half = append(half, b[i:i+25]...)
	}
	for j, h := range all {
		want := b
		if j%2 != 0 {
			want = half
		}
		l[j%len(l)].tells(t, h, want)
	}
}

// P8.2: the calls that a Keyed has by the Hash that it embeds: Len is the text's, and Copy goes on from here, without a hold on it.
func TestKeyedByItsHash(t *testing.T) {
	for _, key := range [][]byte{nil, []byte("Jefe"), text(64), text(65)} {
		for _, n := range lengths {
			k := sha.Key(key)
			b := text(n)
			write(t, k, b)
			h := k.Copy()
			if h == nil {
				t.Fatal("Copy: nil")
			}
			inner := append(padded(key, 54), b...)
			makers()[0].tells(t, h, inner)
			write(t, h, []byte("on"))
			makers()[0].tells(t, h, append(inner, "on"...))
			is(t, "behind a copy", k.Sum(), libMac(key, b))
			write(t, k, []byte{1})
			makers()[0].tells(t, h, append(inner, "on"...))
			is(t, "behind more", k.Sum(), libMac(key, b, []byte{1}))
			if k.Len() != n+1 {
				t.Errorf("Len %d; want %d", k.Len(), n+1)
			}
		}
	}
}

// padded is a key's block, with each byte xored, as the chapter has it.
func padded(key []byte, mask byte) []byte {
	if len(key) > 64 {
		d := libSum(key)
		key = d[:]
	}
	b := make([]byte, 64)
	copy(b, key)
	for i := range b {
		b[i] ^= mask
	}
	return b
}
