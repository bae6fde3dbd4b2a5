package host_test

import (
	"encoding/hex"
	"fmt"
	"strings"
	"testing"

	"chancery/api"
	"chancery/host"
	"chancery/probe"
)

// P13.4: general names and their texts, written out.
func TestKnown(t *testing.T) {
	for _, k := range known {
		takes(t, k.g, k.s)
	}
}

// P13.4: texts that are no general name's.
func TestNoTexts(t *testing.T) {
	for _, s := range []string{
		"", ":", "::", "a", "a.b", "a@b", "*.a.b", "0a0000ff", "C=DE", "email", "dns", "ip", "name", "emaila@c", "dnsa.b", "ip0a0000ff", "nameC=DE", " ", "\x00", "\xff", // without a :
		":a", ":a.b", ":a@b", ":0a0000ff", ":C=DE", "x:a", "x:", "a:b", "uri:a", "URI:a", "mail:a@c", "e:a@c", "emails:a@c", "emai:a@c", "dn:a", "dnss:a", "ns:a", "i:0a0000ff", "ipp:0a0000ff", "p:0a0000ff", "nam:C=DE", "names:C=DE", "ame:C=DE", "1:a@c", "2:a", "4:C=DE", "7:0a0000ff", "0:a", "dirname:C=DE", "rfc822:a@c", // another word ahead
		"EMAIL:a@c", "Email:a@c", "DNS:a", "Dns:a", "dNS:a", "IP:0a0000ff", "Ip:0a0000ff", "NAME:C=DE", "Name:C=DE", // great letters
		" dns:a", "dns :a", "dns: a", "dns:a ", "\tdns:a", "dns:a\n", "dns;a", "dns=a", "dns a", "dns::a", ":dns:a", "dns:dns:a", "dns\x00:a", "dns:a:", "dns\uff1aa", "email::a@c", "ip::0a0000ff", "name::C=DE", "email:email:a@c", "ip:ip:0a0000ff", "name:name:C=DE",
		"email:", "dns:", "ip:", "email:a", "dns:*.a", "dns:a@c", "email:*.a.b", "email:a.b", "ip:a.b", "ip:10.0.0.255", "ip:10.0.0.1/8", "ip:::1", "dns:10.0.0.1", "name:a", "name:a.b", "name:a@b", "dns:C=DE", "email:C=DE", "ip:C=DE", "dns:30", "name:3000", "name:\x30\x00", "ip:\x0a\x00\x00\xff", "ip:abcd", "ip:0123456789abcdef",
		"ip:0A0000ff", "ip:0a0000fF", "ip:0a0000Ff", "ip:0a0000FF", "ip:0A0000FF", "ip:0123456789ABCDEFFEDCBA9876543210", "ip:0123456789abcdeffedcba987654321A", // great letters
		"ip:0a0000f", "ip:0a0000fff", "ip:0", "ip:00", "ip:000000", "ip:0000000", "ip:000000000", "ip:0000000000", "ip:" + strings.Repeat("0", 31), "ip:" + strings.Repeat("0", 33), "ip:" + strings.Repeat("0", 30), "ip:" + strings.Repeat("0", 34), // other numbers of digits
		"ip:0g000000", "ip:g0000000", "ip:0a0000f ", "ip: a0000ff", "ip:0a 000ff", "ip:0a:00:00:ff", "ip:0a.00.00.ff", "ip:-a0000ff", "ip:+a0000ff", "ip:0x0a0000", "ip:0a0000\xff\xff", "ip:0a0000f\x00", "ip:0a0000f/", "ip:0a0000f:", "ip:0a0000f`", "ip:0a0000f@", "ip:0a0000f\u00b2", "ip:\uff10a0000f",
	} {
		if asText(t, s) {
			t.Errorf("%q is a general name's text, by the chapter's words", s)
		}
		noText(t, s)
	}
}

// P13.4: behind each word what is of no such kind.
func TestNoTextsOfWrongs(t *testing.T) {
	words := map[int]string{1: "email:", 2: "dns:"}
	for _, g := range wrongs(t) {
		if word, there := words[g.Kind]; there {
			noText(t, word+g.Text)
		}
		asText(t, g.Text)
		if g.Kind == 7 {
			noText(t, "ip:"+hex.EncodeToString([]byte(g.Text)))
		}
	}
	for _, s := range noNameTexts() {
		noText(t, "name:"+s)
	}
	for _, g := range goods(t) {
		if len(g.Text) > 0 && g.Kind != 4 {
			noText(t, g.Text)
		}
		s := textOf(t, g)
		noText(t, " "+s)
		noText(t, ":"+s)
		noText(t, s[1:])
		noText(t, strings.ToUpper(s[:1])+s[1:])
		noText(t, strings.Replace(s, ":", "", 1))
		noText(t, strings.Replace(s, ":", "::", 1))
	}
}

// P13.4: the text of each name, which begins with its word, and no other one's.
func TestTextsOfNames(t *testing.T) {
	for _, s := range nameTexts() {
		g := api.General{Kind: 4, Text: nameBytes(t, s)}
		takes(t, g, "name:"+s)
		for _, word := range []string{"email:", "dns:", "ip:", "x:", ""} {
			if !asText(t, word+s) {
				noText(t, word+s)
			}
		}
	}
}

// P13.4: each byte of a network address, by two digits; each two bytes as digits.
func TestDigitsOfAddresses(t *testing.T) {
	for x := range 256 {
		one := string([]byte{byte(x)})
		for _, n := range []int{4, 16} {
			for at := range n {
				b := strings.Repeat("\x5a", at) + one + strings.Repeat("\xc3", n-at-1)
				takes(t, api.General{Kind: 7, Text: b}, "ip:"+strings.Repeat("5a", at)+fmt.Sprintf("%02x", x)+strings.Repeat("c3", n-at-1))
			}
		}
		for y := range 256 {
			two := one + string([]byte{byte(y)})
			want := strings.Contains("0123456789abcdef", one) && strings.Contains("0123456789abcdef", two[1:])
			for _, s := range []string{"ip:" + two + "000000", "ip:000000" + two, "ip:0" + two + "00000", "ip:" + strings.Repeat("f", 30) + two} {
				if asText(t, s) != want {
					t.Fatalf("Parse(%q): not %t", s, want)
				}
			}
		}
	}
	for n := range 70 {
		if s := "ip:" + strings.Repeat("7", n); asText(t, s) != (n == 8 || n == 32) {
			t.Errorf("%d digits", n)
		}
	}
}

// P13.4: all short words, and each byte at each place of a text.
func TestParseWords(t *testing.T) {
	taken := 0
	for word := range probe.Short([]byte("emailDdnsp:"), 4) {
		for _, rest := range []string{"a", "a@b", "00000000", "C=DE", ":a", ""} {
			if asText(t, string(word)+rest) || asText(t, string(word)+":"+rest) {
				taken++
			}
		}
	}
	if taken < 6 { // dns has four, ip and name one each, name the empty one too
		t.Errorf("only %d are taken", taken)
	}
	for _, base := range []string{"email:a@b", "dns:a", "dns:*.a.b", "ip:0a0000ff", "name:C=DE", "name:"} {
		for at := range len(base) + 1 {
			for x := range 256 {
				one := string([]byte{byte(x)})
				asText(t, base[:at]+one+base[at:])
				if at < len(base) {
					asText(t, base[:at]+one+base[at+1:])
				}
			}
			if at < len(base) {
				asText(t, base[:at]+base[at+1:])
			}
			asText(t, base[:at])
			asText(t, base[at:])
		}
	}
}

// P1, P13.4: no text breaks it, however long it is.
func TestParseOfAny(t *testing.T) {
	var draws probe.Draws
	const alphabet = "aF0.-@*_:,=\\ \xff"
	words := []string{"", "email:", "dns:", "ip:", "name:", "x:", "name:CN=", "dns:*."}
	for i := range 20000 {
		b := draws.Bytes(i % 40)
		asText(t, words[i%len(words)]+string(b))
		for at := range b {
			b[at] = alphabet[int(b[at])%len(alphabet)]
		}
		asText(t, words[i%len(words)]+string(b))
	}
	for _, word := range words {
		for _, one := range []string{"a", "0", ".", ":", "@", "a.", "C=DE,", ",", `\`, "\xff", "*."} {
			noText(t, word+strings.Repeat(one, 1<<20))
		}
	}
}

// P13.4: texts are all unlike, of all general names that may be.
func TestOneForm(t *testing.T) {
	texts := map[string]api.General{}
	for _, g := range goods(t) {
		s, e := host.Show(g)
		if was, there := texts[s]; e != api.OK || there && was != g {
			t.Errorf("%q is the text of %s and of %s", s, show(was), show(g))
		}
		texts[s] = g
	}
	if len(texts) < 500 {
		t.Errorf("only %d texts", len(texts))
	}
}
