package clock_test

import (
	"testing"
	"time"

	"chancery/api"
	"chancery/clock"
)

// P4.5
func TestText(t *testing.T) {
	for _, k := range known {
		if s, e := clock.Text(k.t); s != k.text || e != api.OK {
			t.Errorf("Text(%d): %q, error %d; want %q", k.t, s, e, k.text)
		}
	}
	for _, n := range noTimes {
		if s, e := clock.Text(n); s != "" || e != api.ErrTime {
			t.Errorf("Text(%d): %q, error %d", n, s, e)
		}
	}
}

// P4.5
func TestWeekday(t *testing.T) {
	for _, k := range known {
		if d, e := clock.Weekday(k.t); d != k.weekday || e != api.OK {
			t.Errorf("Weekday(%d): %d, error %d; want %d", k.t, d, e, k.weekday)
		}
	}
	for _, n := range noTimes {
		if d, e := clock.Weekday(n); d != 0 || e != api.ErrTime {
			t.Errorf("Weekday(%d): %d, error %d", n, d, e)
		}
	}
}

// P4.5: each day of the week, in its first second and in its last one, in weeks at both sides of 0.
func TestWeek(t *testing.T) {
	for _, sunday := range []int{api.MinTime, api.MinTime + 7*day, -4 * day, 3 * day, 10 * day, 1000000000 - 1000000000%day} {
		for d := range 7 {
			for _, n := range []int{sunday + d*day, sunday + d*day + day/2, sunday + d*day + day - 1} {
				if got, e := clock.Weekday(n); got != d || e != api.OK {
					t.Errorf("Weekday(%d): %d, error %d; want %d", n, got, e, d)
				}
			}
		}
	}
}

// P4.5: the library's calendar says the same, on many days at all hours.
func TestTextOtherWay(t *testing.T) {
	for n := api.MinTime; n <= api.MaxTime; n += 37*day + 12345 {
		u := time.Unix(int64(n), 0).UTC()
		if s, e := clock.Text(n); s != u.Format(time.DateTime) || e != api.OK {
			t.Errorf("Text(%d): %q, error %d; want %q", n, s, e, u.Format(time.DateTime))
		}
		if d, e := clock.Weekday(n); d != int(u.Weekday()) || e != api.OK {
			t.Errorf("Weekday(%d): %d, error %d; want %d", n, d, e, u.Weekday())
		}
	}
}
