package clock_test

import (
	"testing"

	"chancery/api"
	"chancery/clock"
)

// next is the time in the calendar one second behind c: one field is one more, and all finer ones begin anew.
func next(c api.Civil) api.Civil {
	leap := c.Year%4 == 0 && (c.Year%100 != 0 || c.Year%400 == 0)
	switch {
	case c.Second < 59:
		c.Second++
	case c.Minute < 59:
		c.Minute, c.Second = c.Minute+1, 0
	case c.Hour < 23:
		c.Hour, c.Minute, c.Second = c.Hour+1, 0, 0
	case c.Day < row(leap)[c.Month-1]:
		c = at(c.Year, c.Month, c.Day+1, 0, 0, 0)
	case c.Month < 12:
		c = at(c.Year, c.Month+1, 1, 0, 0, 0)
	default:
		c = at(c.Year+1, 1, 1, 0, 0, 0)
	}
	return c
}

// P4.6: from the first day to the last one, each in its first second and in its last one, counted along; and there and back.
func TestAllDays(t *testing.T) {
	c := at(1950, 1, 1, 0, 0, 0)
	for n := api.MinTime; n <= api.MaxTime; n += day {
		last := c
		last.Hour, last.Minute, last.Second = 23, 59, 59
		for _, k := range []struct {
			n int
			c api.Civil
		}{{n, c}, {n + day - 1, last}} {
			got, e := clock.Civil(k.n)
			if got != k.c || e != api.OK {
				t.Fatalf("Civil(%d): %v, error %d; want %v", k.n, got, e, k.c)
			}
		}
		if back, e := clock.Seconds(last); back != n+day-1 || e != api.OK {
			t.Fatalf("Seconds(%v): %d, error %d; want %d", last, back, e, n+day-1)
		}
		c = next(last)
	}
	if c != at(10000, 1, 1, 0, 0, 0) {
		t.Errorf("the days end ahead of %v", c)
	}
}

// spans: where all seconds are gone through.
var spans = [][2]int{
	{api.MinTime, api.MinTime + 2*day},
	{-day - 10, day + 10},
	{951782400 - 100, 951782400 + day + 100},   // the 29th of February of 2000
	{2524608000 - 4000, 2524608000 + 4000},     // the end of 2049
	{4107542400 - 4000, 4107542400 + 4000},     // behind the 28th of February of 2100
	{253402300799 - 2*day, api.MaxTime},        // to the end
	{13569465600 - 4000, 13569465600 + 100000}, // 2400 begins
}

// P4.6: each second behind another one.
func TestAllSeconds(t *testing.T) {
	for _, s := range spans {
		want := civil(s[0])
		before := ""
		for n := s[0]; n <= s[1]; n++ {
			c, e := clock.Civil(n)
			if c != want || e != api.OK {
				t.Fatalf("Civil(%d): %v, error %d; want %v", n, c, e, want)
			}
			text, e := clock.Text(n)
			if text <= before || e != api.OK {
				t.Fatalf("Text(%d): %q, error %d, behind %q", n, text, e, before)
			}
			goesRound(t, n, c)
			before, want = text, next(want)
		}
	}
}

// goesRound fails unless a time comes back from the calendar, and from its content.
func goesRound(t *testing.T, n int, c api.Civil) {
	t.Helper()
	if back, e := clock.Seconds(c); back != n || e != api.OK {
		t.Fatalf("Seconds(%v): %d, error %d; want %d", c, back, e, n)
	}
	tag, b, e := clock.Put(n)
	if back, f := clock.Take(tag, b); back != n || e != api.OK || f != api.OK {
		t.Fatalf("Take(Put(%d)): %d of %d %q, errors %d and %d", n, back, tag, b, e, f)
	}
}

// P4.6: over all times, by steps that fall on all fields: there and back, and the lesser time has the lesser text.
func TestAllOver(t *testing.T) {
	before := ""
	for n := api.MinTime; n <= api.MaxTime; n += 1300021 {
		c, e := clock.Civil(n)
		if c != civil(n) || e != api.OK {
			t.Fatalf("Civil(%d): %v, error %d; want %v", n, c, e, civil(n))
		}
		text, e := clock.Text(n)
		if text <= before || e != api.OK {
			t.Fatalf("Text(%d): %q, error %d, behind %q", n, text, e, before)
		}
		goesRound(t, n, c)
		before = text
	}
}
