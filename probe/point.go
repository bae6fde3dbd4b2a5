package probe

import "chancery/api"

// Hexed is the number that digits to the base 16 say; it panics, unless they are of 32 bytes.
func Hexed(digits string) api.Digest { return api.Digest(Raw(digits)) }

// Small is a number that an int says.
func Small(n int) api.Digest { return Plus(api.Digest{}, n) }

// Plus is a number, and so much more or less, modulo 2 to the power 256.
func Plus(d api.Digest, more int) api.Digest {
	for i := len(d) - 1; i >= 0; i-- {
		more += int(d[i])
		d[i] = byte(more)
		more >>= 8
	}
	return d
}

// Turned is a number with one bit another one.
func Turned(d api.Digest, bit int) api.Digest {
	d[bit/8] ^= 1 << (bit % 8)
	return d
}

// Prime is that modulo which the curve's coordinates are reckoned.
func Prime() api.Digest {
	return Hexed("ffffffff 00000001 00000000 00000000 00000000 ffffffff ffffffff ffffffff")
}

// Order is that of the curve's group.
func Order() api.Digest {
	return Hexed("ffffffff 00000000 ffffffff ffffffff bce6faad a7179e84 f3b9cac2 fc632551")
}

// Base is the curve's base.
func Base() api.Point {
	return api.Point{
		X: Hexed("6b17d1f2 e12c4247 f8bce6e5 63a440f2 77037d81 2deb33a0 f4a13945 d898c296"),
		Y: Hexed("4fe342e2 fe1a7f9b 8ee7eb4a 7c0f9e16 2bce3357 6b315ece cbb64068 37bf51f5"),
	}
}

// ZeroPoint has the X 0, of which there is another writing in 32 bytes: Prime.
func ZeroPoint() api.Point {
	return api.Point{Y: Hexed("66485c78 0e2f83d7 2433bd5d 84a06bb6 541c2af3 1dae8717 28bf856a 174f93f4")}
}

// FlatPoint has the Y 1, of which there is another writing, too.
func FlatPoint() api.Point {
	return api.Point{X: Hexed("09e78d4e f60d05f7 50f66362 09092bc4 3cbdd6b4 7e11a9de 20a9feb2 a50bb96c"), Y: Small(1)}
}

// Across is the point of the curve with the same X; it is not the far one.
func Across(p api.Point) api.Point {
	prime, carry := Prime(), 0
	for i := len(p.Y) - 1; i >= 0; i-- {
		carry += int(prime[i]) - int(p.Y[i])
		p.Y[i] = byte(carry)
		carry >>= 8
	}
	return p
}

// Multiples are 2, 3, 4 and so on times the base.
func Multiples() []api.Point {
	return []api.Point{
		{X: Hexed("7cf27b18 8d034f7e 8a523803 04b51ac3 c08969e2 77f21b35 a60b48fc 47669978"), Y: Hexed("07775510 db8ed040 293d9ac6 9f7430db ba7dade6 3ce98229 9e04b79d 227873d1")},
		{X: Hexed("5ecbe4d1 a6330a44 c8f7ef95 1d4bf165 e6c6b721 efada985 fb41661b c6e7fd6c"), Y: Hexed("8734640c 4998ff7e 374b06ce 1a64a2ec d82ab036 384fb83d 9a79b127 a27d5032")},
		{X: Hexed("e2534a35 32d08fbb a02dde65 9ee62bd0 031fe2db 785596ef 50930244 6b030852"), Y: Hexed("e0f1575a 4c633cc7 19dfee5f da862d76 4efc96c3 f30ee005 5c42c23f 184ed8c6")},
		{X: Hexed("51590b7a 515140d2 d784c856 08668fdf ef8c82fd 1f5be524 21554a0d c3d033ed"), Y: Hexed("e0c17da8 904a727d 8ae1bf36 bf8a7926 0d012f00 d4d80888 d1d0bb44 fda16da4")},
		{X: Hexed("b01a172a 76a4602c 92d3242c b897dde3 024c740d ebb215b4 c6b0aae9 3c2291a9"), Y: Hexed("e85c1074 3237dad5 6fec0e2d fba70379 1c00f770 1c7e16bd fd7c4853 8fc77fe2")},
		{X: Hexed("8e533b6f a0bf7b46 25bb3066 7c01fb60 7ef9f8b8 a80fef5b 30062870 3187b2a3"), Y: Hexed("73eb1dbd e0331836 6d069f83 a6f59000 53c73633 cb041b21 c55e1a86 c1f400b4")},
		{X: Hexed("62d9779d bee9b053 4042742d 3ab54cad c1d23898 0fce97db b4dd9dc1 db6fb393"), Y: Hexed("ad5accbd 91e9d824 4ff15d77 1167cee0 a2ed51f6 bbe76a78 da540a6a 0f09957e")},
	}
}

// Points are those of each sort that may be a key.
func Points() []api.Point {
	var l []api.Point
	for _, p := range append(Multiples(), Base(), ZeroPoint(), FlatPoint()) {
		l = append(l, p, Across(p))
	}
	return append(l, // 2 to the power 40 and 7 more, and 2 to the power 63 less 1, times the base
		api.Point{X: Hexed("2d157b0a b605eccd 62e9727b c6bd6543 1e34729d 371c4851 bdb43a1f 3af0414e"), Y: Hexed("8f7fe48e 9cd3468e 540f7262 77fa4ca3 cefe0fac 91d077b1 5add9a8b aa20bcc4")},
		api.Point{X: Hexed("a8f0e39d 3458785d ce9b51b1 d9b3e9bd 1a6d239e 81f4b692 c9afdd01 b58e8269"), Y: Hexed("0d1c67d0 1e5adc5d 23785c32 c557d051 21ff8ac1 b5ba03ff e1f02a23 a6b9f40a")},
	)
}

// NoPoints are those of each sort that may not: off the curve, the far one, with coordinates that are too great.
func NoPoints() []api.Point {
	base, zero, flat, prime, most := Base(), ZeroPoint(), FlatPoint(), Prime(), Plus(api.Digest{}, -1)
	l := []api.Point{
		{Inf: true}, {}, {X: base.X}, {Y: base.Y}, {X: base.Y, Y: base.X}, {X: base.X, Y: Multiples()[0].Y}, {X: Small(1), Y: Small(1)},
		{X: base.X, Y: base.Y, Inf: true}, {X: zero.X, Y: zero.Y, Inf: true}, {X: Small(1), Inf: true}, {Y: Small(1), Inf: true},
		{X: prime, Y: zero.Y}, {X: prime, Y: Across(zero).Y}, {X: flat.X, Y: Plus(prime, 1)}, {X: prime, Y: prime}, {X: prime, Y: prime, Inf: true},
		{X: prime, Y: base.Y}, {X: base.X, Y: prime}, {X: most, Y: base.Y}, {X: base.X, Y: most}, {X: most, Y: most}, {X: Order(), Y: base.Y},
	}
	for _, bit := range []int{0, 7, 128, 248, 255} {
		l = append(l, api.Point{X: Turned(base.X, bit), Y: base.Y}, api.Point{X: base.X, Y: Turned(base.Y, bit)})
	}
	return l
}

// Keys are those of each sort.
func Keys() []api.Digest {
	return []api.Digest{Small(1), Small(2), Small(5), {1}, {0x80}, Plus(Order(), -2), Plus(Order(), -1), Base().X}
}

// NoKeys are numbers that are no key.
func NoKeys() []api.Digest {
	return []api.Digest{{}, Order(), Plus(Order(), 1), Plus(Order(), 2), Prime(), Plus(api.Digest{}, -1)}
}
