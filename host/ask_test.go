package host_test

import (
	"slices"
	"strings"
	"testing"

	"chancery/api"
	"chancery/host"
	"chancery/probe"
)

// P13.1: the chapter's examples.
func TestExamples(t *testing.T) {
	for s, want := range map[string]bool{"a.b": true, "a": true, "a..b": false, "-a": false, "a.1": false, "1.a": true, "": false} {
		if host.DNS(s) != want {
			t.Errorf("DNS(%q): %t", s, !want)
		}
	}
	for s, want := range map[string]bool{"*.a.b": true, "*.a": false, "a.b": false, "*.*.a.b": false} {
		if host.Wild(s) != want {
			t.Errorf("Wild(%q): %t", s, !want)
		}
	}
	for s, want := range map[string]bool{"a.b@c": true, ".a@c": false, "a@c.1": false, "a": false} {
		if host.Email(s) != want {
			t.Errorf("Email(%q): %t", s, !want)
		}
	}
}

// each fails unless a question is answered so for each text, and as the chapter's words answer it.
func each(t *testing.T, what string, ask, words func(string) bool, want bool, texts []string) {
	t.Helper()
	for _, s := range texts {
		if ask(s) != want || words(s) != want {
			t.Errorf("%s(%.300q): %t; by the chapter's words %t; want %t", what, s, ask(s), words(s), want)
		}
	}
}

// P13.1: of each sort that is one, and of each that is none.
func TestDNS(t *testing.T) {
	each(t, "DNS", host.DNS, isDNS, true, hosts())
	each(t, "DNS", host.DNS, isDNS, false, noHosts())
	each(t, "DNS", host.DNS, isDNS, false, slices.Concat(wilds(), emails()))
}

func TestWild(t *testing.T) {
	each(t, "Wild", host.Wild, isWild, true, wilds())
	each(t, "Wild", host.Wild, isWild, false, noWilds())
	each(t, "Wild", host.Wild, isWild, false, slices.Concat(hosts(), emails()))
	for _, s := range hosts() {
		if want := strings.Contains(s, ".") && len(s) <= 251; host.Wild("*."+s) != want {
			t.Errorf("Wild(*.%s): %t", s, !want)
		}
	}
}

func TestEmail(t *testing.T) {
	each(t, "Email", host.Email, isEmail, true, emails())
	each(t, "Email", host.Email, isEmail, false, noEmails())
	each(t, "Email", host.Email, isEmail, false, slices.Concat(hosts(), wilds(), noWilds()))
	for _, local := range locals() {
		for _, s := range hosts() {
			if !host.Email(local + "@" + s) {
				t.Errorf("Email(%s@%s): false", local, s)
			}
			if host.Email(local+"@"+s+"@"+s) || host.Email(local+"@@"+s) || host.Email(local+s) != isEmail(local+s) {
				t.Errorf("%s and %s, with two @ or with none", local, s)
			}
		}
	}
}

// P13.1: network addresses of each length, with bytes of all values.
func TestIP(t *testing.T) {
	for n := range 300 {
		for x := range 256 {
			if got := host.IP(strings.Repeat(string([]byte{byte(x)}), n)); got != (n == 4 || n == 16) {
				t.Fatalf("IP of %d bytes %x: %t", n, x, got)
			}
		}
	}
	for _, n := range []int{1<<8 + 4, 1<<8 + 16, 1<<16 + 4, 1<<16 + 16, 1 << 20} {
		if host.IP(strings.Repeat("a", n)) {
			t.Errorf("IP of %d bytes: true", n)
		}
	}
	for _, s := range addresses() {
		if !host.IP(s) {
			t.Errorf("IP(%q): false", s)
		}
	}
}

// P13.1: labels of each length, at each place of a host's name, with a - at each place of them.
func TestLabelLengths(t *testing.T) {
	if api.MaxLabel != 63 || api.MaxHost != 253 {
		t.Fatal(api.MaxLabel, api.MaxHost)
	}
	for n := range 130 {
		one := strings.Repeat("a", n)
		for _, s := range []string{one, one + ".b", "b." + one, "b." + one + ".c", "b.c." + one + ".d.e"} {
			want := n >= 1 && n <= 63
			if host.DNS(s) != want || host.Email("a@"+s) != want || host.Wild("*.x."+s) != want {
				t.Errorf("a label of %d bytes, in %q: not %t", n, s, want)
			}
		}
		for at := range n {
			s := one[:at] + "-" + one[at+1:]
			for _, s := range []string{s, s + ".b", "b." + s, "b." + s + ".c"} {
				want := n <= 63 && at > 0 && at < n-1
				if host.DNS(s) != want || host.Email("a@"+s) != want || host.Wild("*.x."+s) != want {
					t.Errorf("a - at %d of %d bytes, in %q: not %t", at, n, s, want)
				}
			}
		}
	}
}

// P13.1: hosts' names, wild names and local parts of each length.
func TestLengths(t *testing.T) {
	for n := 1; n < 600; n++ {
		s := probe.LongHost(n)
		if len(s) != n || host.DNS(s) != (n <= 253) || host.Email("a@"+s) != (n <= 253) {
			t.Errorf("a host's name of %d bytes: DNS %t, Email %t", n, host.DNS(s), host.Email("a@"+s))
		}
		if want := n > 63 && n+2 <= 253; host.Wild("*."+s) != want {
			t.Errorf("*. and a host's name of %d bytes: Wild %t", n, !want)
		}
		short := strings.Repeat("a.", n/2) + strings.Repeat("b", n%2)
		if n%2 == 0 {
			short = "a" + short[:n-1]
		}
		if len(short) != n || host.DNS(short) != (n <= 253) || host.Wild("*."+short) != (n > 2 && n <= 251) {
			t.Errorf("%d bytes in short labels: DNS %t, Wild %t", n, host.DNS(short), host.Wild("*."+short))
		}
		for _, local := range []string{strings.Repeat("a", n), strings.Repeat("_", n)} {
			if want := n <= 64; host.Email(local+"@c") != want || host.Email(local+"@"+probe.LongHost(253)) != want {
				t.Errorf("a local part of %d bytes: not %t", n, want)
			}
		}
	}
}

// P13.1: local parts with a . at each place, and with two in a row.
func TestLocalDots(t *testing.T) {
	for n := 1; n <= 66; n++ {
		one := strings.Repeat("a", n)
		for at := range n {
			s := one[:at] + "." + one[at+1:]
			if want := n <= 64 && at > 0 && at < n-1; host.Email(s+"@c") != want {
				t.Errorf("Email(%s@c): not %t", s, want)
			}
			if at > 0 && host.Email(one[:at-1]+".."+one[at+1:]+"@c") {
				t.Errorf("two dots in a row at %d of %d", at-1, n)
			}
		}
	}
}

// P13.1: a last label of digits alone, of digits and one other byte, and digits alone in another label.
func TestDigits(t *testing.T) {
	for n := 1; n <= 63; n++ {
		for _, digit := range []string{"0", "5", "9"} {
			one := strings.Repeat(digit, n)
			for _, s := range []string{one, "a." + one, "a.b." + one, one + "." + one, "1.2.3." + one} {
				if host.DNS(s) || host.Email("a@"+s) || host.Wild("*.a."+s) {
					t.Errorf("%q ends with digits alone, and is taken", s)
				}
			}
			for _, s := range []string{one + ".a", "a." + one + ".b", one + "." + one + ".a", one + ".a1", one + ".1a"} {
				if !host.DNS(s) || !host.Email("a@"+s) || !host.Wild("*."+s) {
					t.Errorf("%q is not taken", s)
				}
			}
			for at := range n {
				for _, letter := range []string{"a", "Z", "x", "f"} {
					s := one[:at] + letter + one[at+1:]
					if !host.DNS(s) || !host.DNS("a."+s) || !host.DNS("1.2.3."+s) {
						t.Errorf("digits and a letter, %q, are not taken", s)
					}
				}
				if s := one[:at] + "-" + one[at+1:]; host.DNS(s) != (at > 0 && at < n-1) {
					t.Errorf("digits and a -, %q: %t", s, host.DNS(s))
				}
			}
		}
	}
}

// P13.1: each byte at each place of short texts.
func TestEachByte(t *testing.T) {
	for x := range 256 {
		one := string([]byte{byte(x)})
		for _, base := range []string{"", "a", "ab", "abc", "a.b", "a.b.c", "1", "a.1", "*.a.b", "*.ab.cd", "a@b", "ab@cd", "a.b@c.d", "*.1.a", "a-b", "a_b@c"} {
			for at := range len(base) + 1 {
				asWords(t, base[:at]+one+base[at:])
				asWords(t, base[:at]+one+one+base[at:])
				if at < len(base) {
					asWords(t, base[:at]+one+base[at+1:])
				}
			}
		}
	}
}

// P13.1: which bytes a label and a local part may have, told by a list that is written out.
func TestWhichBytes(t *testing.T) {
	const plain = "ABCDEFGHIJKLMNOPQRSTUVWXYZabcdefghijklmnopqrstuvwxyz0123456789"
	for x := range 256 {
		one := string([]byte{byte(x)})
		inLabel := strings.Contains(plain+"-", one)
		inLocal := strings.Contains(plain+"-_+", one)
		if got := host.DNS("a" + one + "b"); got != (inLabel || one == ".") {
			t.Errorf("%q in a label: %t", one, got)
		}
		if got := host.DNS(one + "b"); got != (inLabel && one != "-") {
			t.Errorf("%q at a label's first place: %t", one, got)
		}
		if got := host.DNS("a" + one); got != (inLabel && one != "-") {
			t.Errorf("%q at a label's last place: %t", one, got)
		}
		if got := host.Email(one + "@c"); got != inLocal {
			t.Errorf("%q alone as a local part: %t", one, got)
		}
		if got := host.Email("a" + one + "b@c"); got != (inLocal || one == ".") {
			t.Errorf("%q in a local part: %t", one, got)
		}
		if got := host.Wild(one + ".a.b"); got != (one == "*") {
			t.Errorf("%q ahead of a wild name: %t", one, got)
		}
		if got := host.Wild("*" + one + "a.b"); got != (one == ".") {
			t.Errorf("%q behind the *: %t", one, got)
		}
	}
}

// P13.1: all short texts.
func TestShortTexts(t *testing.T) {
	for b := range probe.Short([]byte("aA1.-@*_"), 6) {
		asWords(t, string(b))
	}
	for b := range probe.Short([]byte("a1.-"), 8) {
		asWords(t, string(b))
		asWords(t, "*."+string(b))
		asWords(t, "a@"+string(b))
		asWords(t, string(b)+"@a")
	}
}

// P1, P13.1: no bytes break it.
func TestAnyTexts(t *testing.T) {
	var draws probe.Draws
	const alphabet = "aZ09.-@*_+ :\x80\xff"
	all := slices.Concat(hosts(), wilds(), emails())
	for i := range 20000 {
		asWords(t, string(draws.Bytes(i%300)))
		asWords(t, draws.Changed(all[i%len(all)], alphabet))
		asWords(t, draws.Changed(draws.Changed(all[i%len(all)], alphabet), alphabet))
	}
	for _, one := range []string{"a", ".", "-", "1", "@", "*", "*.", "a.", "a@", ".@", "\xff", "a-", "_"} {
		s := strings.Repeat(one, 1<<21)
		asWords(t, s)
		asWords(t, "*."+s)
		asWords(t, "a@"+s)
		asWords(t, s+"@a")
	}
}
