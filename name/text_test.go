package name_test

import (
	"slices"
	"strings"
	"testing"

	"chancery/api"
	"chancery/name"
	"chancery/probe"
)

// noTexts are texts that are no name's.
var noTexts = []string{
	"X=a", "A=a", "E=a", "DN=a", "DC=a", "CNN=a", "CNCN=a", "OUO=a", "S=a", "N=a", "U=a", "T=a", "3=a", "2.5.4.3=a", "OID.2.5.4.3=a", // labels that are none
	"cn=a", "Cn=a", "cN=a", "c=DE", "o=a", "ou=a", "oU=a", "Ou=a", "l=a", "st=a", "sn=a", // small letters
	" CN=a", "CN =a", "\tCN=a", "C N=a", "CN\x00=a", "\x00CN=a", "\uff23N=a", `\CN=a`, `C\N=a`, `CN\=a`, `\=a`, "=CN=a", "=", "==", "=a", // what stands at a label
	"CN", "a", ".", "CNa", "CN:a", "CN a", " ", "  ", "\xff", "\x00", ",", ",,", `\,`, `\\`, // no =
	"CN=", "SN=", "C=", "L=", "ST=", "O=", "OU=", "CN=,O=a", "O=a,CN=", "CN=,", // no Value
	"CN=a,", ",CN=a", "CN=a,,O=b", "CN=a,,", "CN=a,O=b,", "C=DE,", "CN=a, O=b", "CN=a ,O", "CN=a,b", "CN=a,=b", // commas, and what stands behind them
	`CN=a\b`, `CN=\a`, `CN=\=`, `CN=\ a`, `CN=\"a`, `CN=\2c`, `CN=\2C`, `CN=\n`, "CN=\\\x00", "CN=\\\u00e9", "CN=\\\xff", `CN=a\\\b`, `O=b,CN=\a`, `CN=\a,O=b`, // a \ ahead of another byte
	"C=de", "C=De", "C=D", "C=DEU", "C=12", "C=D ", `C=D\,`, `C=\\D`, "C= DE", "C=DE ", "SN=a@b", "SN=a_b", "SN=\u00e9", `SN=\\`, "SN=a;b", "CN=\xff", "CN=a\xc3", "O=\xed\xa0\x80", // names that may not be
	`O="a,b"`, "CN=a\nO=b,", "CN=a/O=b,c",
}

// P12.4
func TestNoTexts(t *testing.T) {
	for _, s := range noTexts {
		noText(t, s)
		noText(t, s+",CN=a")
		noText(t, "CN=a,"+s)
	}
	for _, s := range []string{`\`, `\\\`, `CN\`, `CN=\`, `CN=a\`, `CN=\\\`, `CN=a\\\`, `CN=\,\`, `O=a,CN=\`, `C=DE\`} { // a \ at the end
		noText(t, s)
		noText(t, "CN=a,"+s)
	}
}

// P12.4: Values too long, too many attributes, and much else that is much.
func TestNoTextsLong(t *testing.T) {
	for label, want := range map[string]bool{"CN": true, "SN": true, "L": true, "ST": true, "O": true, "OU": true, "C": false} {
		for _, one := range []string{"a", `\,`} {
			s := label + "=" + strings.Repeat(one, 64)
			if asExpression(t, s) != want {
				t.Errorf("Parse(%q)", s)
			}
			noText(t, s+one)
			noText(t, s+one+",CN=a")
		}
	}
	many := strings.Repeat(",CN=a", 40)[1:]
	for count := 1; count <= 40; count++ {
		if asExpression(t, many[:count*5-1]) != (count <= 16) {
			t.Errorf("%d attributes", count)
		}
	}
	for _, one := range []string{"a", "=", ",", `\`, "CN=a,", ",CN=a", "CN=", "CN=a", `\,`, "\xff", "C=DE"} {
		noText(t, strings.Repeat(one, 1<<20))
		noText(t, "CN="+strings.Repeat(one, 1<<20))
		noText(t, "CN=a,"+strings.Repeat(one, 1<<20))
	}
}

// P12.4: each byte behind a \, as a Value, ahead of a Value, and in a label.
func TestParseBytes(t *testing.T) {
	for x := range 256 {
		one := string([]byte{byte(x)})
		marked := one == "," || one == `\`
		for _, c := range []struct {
			s    string
			want bool
		}{
			{`CN=\` + one, marked}, {`CN=a\` + one, marked}, {`CN=\` + one + "a", marked}, {`CN=a\` + one + "b,O=c", marked},
			{"CN=" + one, x < 128 && !marked}, {"CN=a" + one, x < 128 && !marked}, {"CN=" + one + one, x < 128 && one != ","},
			{"CN" + one + "a", x == '='}, {one + "CN=a", false}, {one + "N=a", one == "C" || one == "S"}, {"O" + one + "=a", one == "U" || one == "="}, {one + "=a", one == "L" || one == "O"},
			{one + "=DE", strings.Contains("CLO", one)}, {"CN=a" + one + "O=b", x < 128 && one != `\`},
		} {
			if asExpression(t, c.s) != c.want {
				t.Errorf("Parse(%q): not %t", c.s, c.want)
			}
		}
	}
}

// P12.4: all short labels.
func TestParseLabels(t *testing.T) {
	taken := 0
	for label := range probe.Short([]byte("CNSTLOUcn =,\\"), 3) {
		s := string(label) + "=AB"
		_, ok := nameOf(s)
		if asExpression(t, s) != ok {
			t.Errorf("Parse(%q)", s)
		}
		if ok {
			taken++
		}
	}
	if taken < len(labels) {
		t.Errorf("only %d are taken", taken)
	}
}

// P12.4, P12.6: of all short texts just those are taken that a name has, and these are told again.
func TestParseOneForm(t *testing.T) {
	taken := 0
	for b := range probe.Short([]byte("O=,\\A"), 8) {
		s := string(b)
		if !asExpression(t, s) {
			continue
		}
		taken++
		n, _ := name.Parse(s)
		if again, e := name.Text(n); e != api.OK || again != s {
			t.Fatalf("%q, read as %s, is told as %q, error %d", s, show(n), again, e)
		}
	}
	if taken < 1000 {
		t.Errorf("only %d are taken", taken)
	}
}

// P12.4: names of Values with , and \ at each place, several in a row; each text is another one.
func TestTextMarks(t *testing.T) {
	texts := map[string]api.Name{}
	for b := range probe.Short([]byte(`,\a=`), 5) {
		if len(b) == 0 {
			continue
		}
		for _, n := range []api.Name{of(string(b)), of(string(b), "a"), of("a", string(b)), {{Type: 10, Value: string(b)}}} {
			s, e := name.Text(n)
			if was, there := texts[s]; e != api.OK || s != textOf(n) || there && !slices.Equal(was, n) {
				t.Fatalf("Text(%s): %q, error %d; also of %s", show(n), s, e, show(was))
			}
			texts[s] = n
			if got, e := name.Parse(s); e != api.OK || !slices.Equal(got, n) {
				t.Fatalf("Parse(%q): %s, error %d; want %s", s, show(got), e, show(n))
			}
		}
	}
}

// P1, P12.4: no text breaks it.
func TestParseOfAny(t *testing.T) {
	var draws probe.Draws
	alphabet := "CNSTLOU=,\\aA @\xc3\xa9\xff"
	for i := range 30000 {
		b := draws.Bytes(i % 50)
		asExpression(t, string(b))
		for at := range b {
			b[at] = alphabet[int(b[at])%len(alphabet)]
		}
		asExpression(t, string(b))
		asExpression(t, "CN="+string(b))
	}
}
