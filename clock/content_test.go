package clock_test

import (
	"bytes"
	"math"
	"regexp"
	"strconv"
	"testing"
	"time"

	"chancery/api"
	"chancery/clock"
)

// taken fails unless that is taken, or refused, so; beside an error stands 0.
func taken(t *testing.T, tag int, content string, want int, wrong api.Errno) {
	t.Helper()
	if wrong != api.OK {
		want = 0
	}
	if n, e := clock.Take(tag, []byte(content)); n != want || e != wrong {
		t.Errorf("Take(%d, %q): %d, error %d; want %d, error %d", tag, content, n, e, want, wrong)
	}
}

// P4.3, P4.4
func TestPutAndTake(t *testing.T) {
	for _, k := range known {
		if tag, b, e := clock.Put(k.t); tag != k.tag || string(b) != k.content || e != api.OK {
			t.Errorf("Put(%d): %d %q, error %d; want %d %q", k.t, tag, b, e, k.tag, k.content)
		}
		taken(t, k.tag, k.content, k.t, api.OK)
	}
}

// P4.3
func TestPutNoTime(t *testing.T) {
	for _, n := range noTimes {
		if tag, b, e := clock.Put(n); tag != 0 || b != nil || e != api.ErrTime {
			t.Errorf("Put(%d): %d %q, error %d", n, tag, b, e)
		}
	}
}

// P4.4: other tags, ahead of all that may be wrong behind them.
func TestOtherTags(t *testing.T) {
	tags := []int{math.MinInt, math.MaxInt, 256 + 23, 256 + 24, 1<<32 + 23, 1<<32 + 24, -23, -24, 0x80 | 23, 0x80 | 24, -1, 300}
	for tag := range 256 {
		if tag != 23 && tag != 24 {
			tags = append(tags, tag)
		}
	}
	for _, tag := range tags {
		for _, s := range []string{"", "Z", "700101000000Z", "20500101000000Z", "20491231235959Z", "701301000000Z", "x"} {
			taken(t, tag, s, 0, api.ErrTag)
		}
		if n, e := clock.Take(tag, nil); n != 0 || e != api.ErrTag {
			t.Errorf("Take(%d, nil): %d, error %d", tag, n, e)
		}
	}
}

// sound: a content of each tag that is taken.
var sound = map[int]string{23: "700101000000Z", 24: "20500101000000Z"}

// P4.4: contents of all lengths, made of digits, with and without a Z.
func TestLengths(t *testing.T) {
	for tag, s := range sound {
		for n := range 40 {
			d := string(bytes.Repeat([]byte{'1'}, n))
			taken(t, tag, d, 0, api.ErrForm)
			if n != len(s)-1 {
				taken(t, tag, d+"Z", 0, api.ErrForm)
			}
		}
		for n := range s {
			taken(t, tag, s[:n], 0, api.ErrForm) // it ends too soon
			taken(t, tag, s[n+1:], 0, api.ErrForm)
			taken(t, tag, s[:n]+s[n+1:], 0, api.ErrForm)
			taken(t, tag, s[:n]+"0"+s[n:], 0, api.ErrForm)
		}
		for _, x := range []string{"0", "Z", " ", "\x00", "\n", "+0000", "00"} {
			taken(t, tag, s+x, 0, api.ErrForm)
			taken(t, tag, x+s, 0, api.ErrForm)
		}
		digits := s[:len(s)-1]
		for _, end := range []string{"", "z", "0", "ZZ", "+", "+0000", "-0000", ".0Z", " Z", "\xda", "Ž"} {
			taken(t, tag, digits+end, 0, api.ErrForm)
		}
		taken(t, tag, digits[:len(digits)-2]+"Z", 0, api.ErrForm) // without seconds
		if n, e := clock.Take(tag, nil); n != 0 || e != api.ErrForm {
			t.Errorf("Take(%d, nil): %d, error %d", tag, n, e)
		}
	}
	taken(t, 23, sound[24], 0, api.ErrForm) // the form of the other tag
	taken(t, 24, sound[23], 0, api.ErrForm)
	if n, e := clock.Take(24, bytes.Repeat([]byte{'0'}, 1<<20)); n != 0 || e != api.ErrForm {
		t.Errorf("many digits: %d, error %d", n, e)
	}
}

// P4.4: what is no form is told ahead of what is no time, and that ahead of the other shape.
func TestOrderOfErrors(t *testing.T) {
	for _, c := range []struct {
		tag     int
		content string
		want    api.Errno
	}{
		{23, "709999999999z", api.ErrForm}, {23, "70130100000xZ", api.ErrForm}, {23, "x01301000000Z", api.ErrForm}, {23, "7013010000000Z", api.ErrForm},
		{24, "20491301000000", api.ErrForm}, {24, "2049130100000:Z", api.ErrForm}, {24, "194901010000/0Z", api.ErrForm}, {24, "20490101000000z", api.ErrForm},
		{24, "20491301000000Z", api.ErrTime}, {24, "20490001000000Z", api.ErrTime}, {24, "20490100000000Z", api.ErrTime}, {24, "20490132000000Z", api.ErrTime},
		{24, "20490101240000Z", api.ErrTime}, {24, "20490101006000Z", api.ErrTime}, {24, "20490101000060Z", api.ErrTime}, {24, "19500229000000Z", api.ErrTime},
		{24, "19490101000000Z", api.ErrTime}, {24, "19491231235959Z", api.ErrTime}, {24, "00000101000000Z", api.ErrTime}, {24, "00000000000000Z", api.ErrTime}, {24, "00700101000000Z", api.ErrTime},
		{24, "19500101000000Z", api.ErrShape}, {24, "19700101000000Z", api.ErrShape}, {24, "20000229000000Z", api.ErrShape}, {24, "20491231235959Z", api.ErrShape},
		{24, "20501301000000Z", api.ErrTime}, {24, "20500229000000Z", api.ErrTime}, {24, "99991231240000Z", api.ErrTime}, {24, "99999999999999Z", api.ErrTime},
		{23, "000000000000Z", api.ErrTime}, {23, "999999999999Z", api.ErrTime}, {23, "700101000060Z", api.ErrTime}, {23, "700101006000Z", api.ErrTime}, {23, "700101240000Z", api.ErrTime},
		{23, "700100000000Z", api.ErrTime}, {23, "700132000000Z", api.ErrTime}, {23, "700001000000Z", api.ErrTime}, {23, "701301000000Z", api.ErrTime}, {23, "500229000000Z", api.ErrTime},
	} {
		taken(t, c.tag, c.content, 0, c.want)
	}
}

// P4.3, P4.4: each year of two digits, and each of four, by its first second.
func TestYears(t *testing.T) {
	rest := "0101000000Z"
	for year := range 10000 {
		long := strconv.Itoa(10000 + year)[1:]
		n := unix(at(year, 1, 1, 0, 0, 0))
		switch {
		case year < 1950:
			taken(t, 24, long+rest, 0, api.ErrTime)
		case year < 2050:
			taken(t, 24, long+rest, 0, api.ErrShape)
			taken(t, 23, long[2:]+rest, n, api.OK)
			if tag, b, e := clock.Put(n); tag != 23 || string(b) != long[2:]+rest || e != api.OK {
				t.Errorf("Put(%d): %d %q, error %d", n, tag, b, e)
			}
		default:
			taken(t, 24, long+rest, n, api.OK)
			if tag, b, e := clock.Put(n); tag != 24 || string(b) != long+rest || e != api.OK {
				t.Errorf("Put(%d): %d %q, error %d", n, tag, b, e)
			}
		}
	}
}

var shapes = map[int]*regexp.Regexp{23: regexp.MustCompile(`\A[0-9]{12}Z\z`), 24: regexp.MustCompile(`\A[0-9]{14}Z\z`)}

// read reads a content the other way: by patterns, and by the library's calendar.
func read(tag int, content string) (int, api.Errno) {
	if !shapes[tag].MatchString(content) {
		return 0, api.ErrForm
	}
	long := content
	if tag == 23 && content < "50" {
		long = "20" + content
	} else if tag == 23 {
		long = "19" + content
	}
	u, err := time.Parse("20060102150405Z", long)
	if err != nil || long < "1950" {
		return 0, api.ErrTime
	}
	if tag == 24 && long < "2050" {
		return 0, api.ErrShape
	}
	return int(u.Unix()), api.OK
}

// P4.4, P4.6: each byte there is at each place of some contents, and each number at each place of two digits; what is taken is what is put.
func TestEachPlace(t *testing.T) {
	bases := map[int][]string{
		23: {"700101000000Z", "500101000000Z", "491231235959Z", "000229120000Z", "991130222050Z", "010228000000Z"},
		24: {"20500101000000Z", "20491231235959Z", "99991231235959Z", "24000229120000Z", "19500101000000Z", "19491231235959Z", "21000228000000Z"},
	}
	for tag, l := range bases {
		for _, base := range l {
			for i := range base {
				for x := range 256 {
					b := []byte(base)
					b[i] = byte(x)
					same(t, tag, b)
				}
				for x := range 100 {
					if i+2 < len(base) {
						b := []byte(base)
						b[i], b[i+1] = byte('0'+x/10), byte('0'+x%10)
						same(t, tag, b)
					}
				}
			}
		}
	}
}

// same fails unless a content is read as the other way has it, and written as it was.
func same(t *testing.T, tag int, b []byte) {
	t.Helper()
	want, wrong := read(tag, string(b))
	taken(t, tag, string(b), want, wrong)
	if wrong != api.OK {
		return
	}
	if back, s, e := clock.Put(want); back != tag || !bytes.Equal(s, b) || e != api.OK {
		t.Errorf("Put(%d): %d %q, error %d; want %d %q", want, back, s, e, tag, b)
	}
}
