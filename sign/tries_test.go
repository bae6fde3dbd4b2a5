package sign_test

import (
	"iter"
	"slices"
	"testing"

	"chancery/api"
	"chancery/sign"
)

// someTries are keys and digests with how many tries there are, and the first, the second, the fiftieth and the last, written out; they were reckoned by another program.
var someTries = []struct {
	key, digest                 string
	count                       int
	first, second, middle, last string
}{
	{"05", "", 100, "35f6e341405e516c2fd796ca12f039c6971ab7a0f69b254e38ca7191f298dfb2", "bfab2feade31ae5267f8436b1e6564c67728b011b7cd207be22c26b675f92363", "dd13874f911a01c7dc02c7640fcb048b9a33efbb5a7f0430b9a1d3aa0a3aeb7e", "bc0d663ef9cf99211606dca66f3848ed12cbba631cc4ed7a8581d48d86d66e82"},
	{"", "", 100, "601cf54e09f7b9149eee6624bfba7d12daae70b5f2d8c57b405f96d1aa92dc47", "5b01f41b19fac4275d50e29a795c8d4be1eba6c3ac4c9e56ee7c168e3de228cd", "751d07c67528560de7dcc93c3389bfcc032fa22132f2b054510c3717095d312f", "e4485afccaf7b100b39d641cf474c86e393033b221c592641b502574beb2b672"},
	{"01", "", 100, "010497d369b3d525ca15ec29c104a694210bb59ff6cabfc10afe6df0283896df", "a9b1a1a84a4c2f96b6158ed7a81404c50cb74373c22e8d9e02d0411d719acae2", "98dcea6b30b63f2c76c28ad0c17e80e5defc74b8f7366f66bccd738e3ac7d014", "fec035e2a0ed7c44084e34eee66293760d7da6ee77e44a1a352e1759b6bc7750"},
	{"01", "01", 100, "9a409dab05968059da3efb323dc67c96f234571b965fd39810ca0643fbb795ac", "a5074d0289fa4705a77f1759eed53d1c19991cecbd2286b05a77cd1bd1cc81d3", "c458e226fd7aea13a25d9a96bfc6be4e33a5045a36937588daddf3d6d680607c", "f4b34930b5c8843a9092d60908e1ddb571e016a8f416baf367ac30a40b2f69d1"},
	{"ffffffff00000000ffffffffffffffffbce6faada7179e84f3b9cac2fc632550", "ffffffff00000000ffffffffffffffffbce6faada7179e84f3b9cac2fc632550", 100, "59b31ab9376945abf5a772978fb09677c59bf6d34c04f73130afbc64736a9aaa", "30521ccf0aeba33eb86a78826f0de1002037212e911a2b09863e43ace0eeb457", "5f65266cbb0946d0eabb998f4280e9780f5c78f796a0f7fc548411fb3b59445b", "7bd4859b047158a2ad4d2946a74ddc4d77d150f755f4bc3acf1714effd0d04e0"},
	{"ffffffff00000000ffffffffffffffffbce6faada7179e84f3b9cac2fc632551", "ffffffff00000000ffffffffffffffffbce6faada7179e84f3b9cac2fc632551", 100, "95261db2ba93fd3cd0a4049840ca7fa8e7879189e52a25b8f48fddf96a8da028", "fe059261d8093193889c3c3b557b35ebac59914e38e2c84b5426a4a018b3fef4", "c9c2ff42ee384d3980f66997a03052d47a9250a1e7978217a8b71e2ce220fbc8", "8419ca302bf738ef7bba621da152403f26a2806cd247e1000d0db71f01b28e2d"},
	{"ffffffff00000000ffffffffffffffffbce6faada7179e84f3b9cac2fc632552", "ffffffff00000000ffffffffffffffffbce6faada7179e84f3b9cac2fc632552", 100, "14f986f0623b0e11fd1d783ae7eefec86e40907bcecae59df1feb4a37a739e09", "d3dc48c7fdd6417149ab0223dba5522d974e45b8cb2ff7dd6770e804c6853975", "f3d79ef06407fabb77f1d4e9fdfd3a470c08f654caf2f1979133ff0058cd5449", "c4ac08868e6d928ffc2b148209cdd8b9a0e17086ca002d9c4a602ac93ac7c40e"},
	{"ffffffffffffffffffffffffffffffffffffffffffffffffffffffffffffffff", "ffffffffffffffffffffffffffffffffffffffffffffffffffffffffffffffff", 100, "5792a3acb56f92b5d9618db0790b4a57dc3406f9a8cd5b7ecd87f773cfe2d47e", "43ce91361c4dcd1babd75187b6012798f0d9712e03d3aa1a501f453984407477", "a932ede30bc754f902f8cc9c51433b6bb741d57bebc41fff4874e5f70b17a329", "80c5c36cea77691063e89547e1ae0167248fd4d05c5e05dbfebf32fffc468107"},
	{"02", "1b02ea4166dab05213b57d12a5df6126b646e5e06e9f7915924768f3d96f07f6", 100, "bf89da26c7aae8ace177159190ac2badc256e7e5f77b401e4ae3b43aa32d6d48", "6ca0dca2c9a1fe578dffc40627d9ece9fe69bd956bf5c793abc97124eb0f6e78", "3fa083206dc7c3a429901c85badb185789efa4cd8ab5033239c0c238ecd02701", "80096583c7490657477b152418cdcb4320b734b34bd58a0740832736a7090d23"},
	{"8fa3aab2faa9b79e0a0398da5b5abd0780142442a5be80b9a64608d718cb1fcd", "1b02ea4166dab05213b57d12a5df6126b646e5e06e9f7915924768f3d96f07f6", 100, "a0b32b270d7eb033c65a02be6b1d99cde2bd1f3fcf91c7fee3e6e5ad3077e8b1", "99898ea1f56e63dd8bf784c89328cba51709ef37910630fc84ffded766645288", "66ce3c1c7fc722e0c13ffd4d36404fb95ab3345e4790a6336442f659277d2b5b", "8ad96bef70c9bd186fd03a87f5b652b8b0b913293e7e3b78e78726d2497aa83e"},
}

// P11.2: tries that are written out.
func TestNonces(t *testing.T) {
	for _, c := range someTries {
		l := all(sign.Nonces(hexed(c.key), hexed(c.digest)))
		if len(l) != c.count {
			t.Fatalf("of %s and %s: %d tries", c.key, c.digest, len(l))
		}
		for i, want := range map[int]string{0: c.first, 1: c.second, 49: c.middle, 99: c.last} {
			if l[i] != hexed(want) {
				t.Errorf("of %s and %s, try %d: %x; want %s", c.key, c.digest, i, l[i], want)
			}
		}
	}
}

// P11.2: RFC 6979's k of the texts sample and test, by their digests.
func TestNoncesOfRFC6979(t *testing.T) {
	for digest, want := range map[string]string{
		"af2bdbe1aa9b6ec1e2ade1d694f41fc71a831d0268e9891562113d8a62add1bf": "a6e3c57dd01abe90086538398355dd4c3b17aa873382b0f24d6129493d8aad60",
		"9f86d081884c7d659a2feaa0c55ad015a3bf4f1b2b0b822cd15d6c15b0f00a08": "d16b6ae827f17175e040871a1c7ec3500192c4c92677336ec2537acaee0008e0",
	} {
		if l := all(sign.Nonces(hexed(rfcKey), hexed(digest))); len(l) != 100 || l[0] != hexed(want) {
			t.Errorf("of %s: %d tries, the first %x", digest, len(l), l[0])
		}
	}
}

// P11.2: a value that is n or above is no try, and counts among the hundred: of the text wv[vnX's digest it is the first one, ffffffffa9ae57.., and of the other digest the one at 36, ffffffff0d5905...
func TestValueThatIsNoTry(t *testing.T) {
	for _, c := range []struct {
		key, digest string
		want        map[int]string
	}{
		{rfcKey, "01d4428313d415c433516d15316507aef8104803c8b59ade73874904031088ad", map[int]string{
			0:  "2ae40df9d9dab61d688de3dcb9867a98ecc70dd4d6c0f6c228b6e4e0b18b29bc",
			98: "660a71514e67693705532cde372882345f23dc9e543aca421fbb68ba5833038b",
		}},
		{"05", "01646498", map[int]string{
			0:  "d8e0ff08f045da2fe43630e08d820911c450f98cf483e53ea9c95d0e4e943282",
			35: "fcf1ea7925cf13ef4465c45f5d41248fe1c170368d57ae7c89be2db3c1a42e11",
			36: "572838ee283c5d0ded812592327c326d44c8dbff465d8abf2bcca6f5a3aaee1a",
			98: "f49a2721e76b8a150b03122c13b012f6036f864fcb6fe3d24dcb757972ce00ad",
		}},
	} {
		l := all(sign.Nonces(hexed(c.key), hexed(c.digest)))
		if len(l) != 99 {
			t.Fatalf("of %s: %d tries", c.digest, len(l))
		}
		for i, want := range c.want {
			if l[i] != hexed(want) {
				t.Errorf("of %s, try %d: %x; want %s", c.digest, i, l[i], want)
			}
		}
	}
}

// P11.2: all tries of any key, of what is none, and of any digest, are those of the chapter's words.
func TestNoncesByWords(t *testing.T) {
	for _, d := range append(keys(), noKeys()...) {
		for _, h := range digests() {
			if got, want := all(sign.Nonces(d, h)), triesOf(d, h); !slices.Equal(got, want) {
				t.Fatalf("of %x and %x: %x; want %x", d, h, got, want)
			}
		}
	}
}

// P11.2: the digest is taken modulo n, and the key as it is.
func TestNoncesModulo(t *testing.T) {
	of := func(d, h api.Digest) api.Digest { return all(sign.Nonces(d, h))[0] }
	for _, d := range append(keys(), noKeys()...) {
		if of(d, nAnd(0)) != of(d, api.Digest{}) || of(d, nAnd(1)) != of(d, small(1)) || of(d, nAnd(-1)) == of(d, api.Digest{}) {
			t.Errorf("of key %x", d)
		}
	}
	for _, h := range digests() {
		if of(nAnd(0), h) == of(api.Digest{}, h) || of(nAnd(1), h) == of(small(1), h) {
			t.Errorf("of digest %x", h)
		}
	}
}

// P11.2, P2: a range over the tries may be left anywhere, and is gone over again from the first on.
func TestRangeIsLeft(t *testing.T) {
	d, h := hexed(rfcKey), small(7)
	want := triesOf(d, h)
	seq := sign.Nonces(d, h)
	for _, count := range []int{1, 2, 50, 99, 100} {
		var got []api.Digest
		for try := range seq {
			if got = append(got, try); len(got) == count {
				break
			}
		}
		if !slices.Equal(got, want[:count]) {
			t.Errorf("left at %d: %x", count, got)
		}
	}
	if got := all(seq); !slices.Equal(got, want) {
		t.Errorf("gone over again: %x", got)
	}
}

// P11.2: what says that it wants no more is not asked again.
func TestNoMoreIsTold(t *testing.T) {
	for _, count := range []int{1, 2, 50, 100} {
		told := 0
		sign.Nonces(small(5), small(7))(func(api.Digest) bool {
			told++
			return told < count
		})
		if told != count {
			t.Errorf("wanted %d, told %d", count, told)
		}
	}
}

// P11.2, P2: two ranges that go side by side, of one function and of two, know nothing of each other.
func TestSideBySide(t *testing.T) {
	a, b := sign.Nonces(small(5), small(7)), sign.Nonces(small(5), small(8))
	for _, c := range []struct{ one, other iter.Seq[api.Digest] }{{a, a}, {a, b}, {b, a}} {
		want, wantOther := all(c.one), all(c.other)
		one, stop := iter.Pull(c.one)
		other, stopOther := iter.Pull(c.other)
		for i := range want {
			x, _ := one()
			y, _ := other()
			if x != want[i] || y != wantOther[i] {
				t.Errorf("try %d: %x and %x", i, x, y)
			}
		}
		if x, more := one(); more {
			t.Errorf("one more: %x", x)
		}
		stop()
		stopOther()
	}
}

// P11.2, P2: one range within another one over the same function.
func TestRangeInRange(t *testing.T) {
	seq := sign.Nonces(small(5), small(7))
	want := triesOf(small(5), small(7))
	i := 0
	for x := range seq {
		j := 0
		for y := range seq {
			if y != want[j] {
				t.Fatalf("inner try %d: %x", j, y)
			}
			if j++; j > 3 {
				break
			}
		}
		if x != want[i] {
			t.Fatalf("outer try %d: %x", i, x)
		}
		i++
	}
	if i != len(want) {
		t.Errorf("%d tries", i)
	}
}
