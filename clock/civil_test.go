package clock_test

import (
	"math"
	"testing"
	"time"

	"chancery/api"
	"chancery/clock"
)

const day = 86400

// at is a time in the calendar.
func at(year, month, day, hour, minute, second int) api.Civil {
	return api.Civil{Year: year, Month: month, Day: day, Hour: hour, Minute: minute, Second: second}
}

// known: times by their seconds, in the calendar, as texts, as contents, with their days of the week.
var known = []struct {
	t       int
	c       api.Civil
	text    string
	tag     int
	content string
	weekday int
}{
	{api.MinTime, at(1950, 1, 1, 0, 0, 0), "1950-01-01 00:00:00", 23, "500101000000Z", 0},
	{api.MinTime + 1, at(1950, 1, 1, 0, 0, 1), "1950-01-01 00:00:01", 23, "500101000001Z", 0},
	{-599616001, at(1950, 12, 31, 23, 59, 59), "1950-12-31 23:59:59", 23, "501231235959Z", 0},
	{-599616000, at(1951, 1, 1, 0, 0, 0), "1951-01-01 00:00:00", 23, "510101000000Z", 1},
	{-86401, at(1969, 12, 30, 23, 59, 59), "1969-12-30 23:59:59", 23, "691230235959Z", 2},
	{-86400, at(1969, 12, 31, 0, 0, 0), "1969-12-31 00:00:00", 23, "691231000000Z", 3},
	{-1, at(1969, 12, 31, 23, 59, 59), "1969-12-31 23:59:59", 23, "691231235959Z", 3},
	{0, at(1970, 1, 1, 0, 0, 0), "1970-01-01 00:00:00", 23, "700101000000Z", 4},
	{59, at(1970, 1, 1, 0, 0, 59), "1970-01-01 00:00:59", 23, "700101000059Z", 4},
	{60, at(1970, 1, 1, 0, 1, 0), "1970-01-01 00:01:00", 23, "700101000100Z", 4},
	{3599, at(1970, 1, 1, 0, 59, 59), "1970-01-01 00:59:59", 23, "700101005959Z", 4},
	{3600, at(1970, 1, 1, 1, 0, 0), "1970-01-01 01:00:00", 23, "700101010000Z", 4},
	{86399, at(1970, 1, 1, 23, 59, 59), "1970-01-01 23:59:59", 23, "700101235959Z", 4},
	{86400, at(1970, 1, 2, 0, 0, 0), "1970-01-02 00:00:00", 23, "700102000000Z", 5},
	{2 * 86400, at(1970, 1, 3, 0, 0, 0), "1970-01-03 00:00:00", 23, "700103000000Z", 6},
	{3 * 86400, at(1970, 1, 4, 0, 0, 0), "1970-01-04 00:00:00", 23, "700104000000Z", 0},
	{951782399, at(2000, 2, 28, 23, 59, 59), "2000-02-28 23:59:59", 23, "000228235959Z", 1},
	{951782400, at(2000, 2, 29, 0, 0, 0), "2000-02-29 00:00:00", 23, "000229000000Z", 2},
	{951868800, at(2000, 3, 1, 0, 0, 0), "2000-03-01 00:00:00", 23, "000301000000Z", 3},
	{1000000000, at(2001, 9, 9, 1, 46, 40), "2001-09-09 01:46:40", 23, "010909014640Z", 0},
	{2493072000, at(2049, 1, 1, 0, 0, 0), "2049-01-01 00:00:00", 23, "490101000000Z", 5},
	{2524607999, at(2049, 12, 31, 23, 59, 59), "2049-12-31 23:59:59", 23, "491231235959Z", 5},
	{2524608000, at(2050, 1, 1, 0, 0, 0), "2050-01-01 00:00:00", 24, "20500101000000Z", 6},
	{4107542399, at(2100, 2, 28, 23, 59, 59), "2100-02-28 23:59:59", 24, "21000228235959Z", 0},
	{4107542400, at(2100, 3, 1, 0, 0, 0), "2100-03-01 00:00:00", 24, "21000301000000Z", 1},
	{13574563200, at(2400, 2, 29, 0, 0, 0), "2400-02-29 00:00:00", 24, "24000229000000Z", 2},
	{api.MaxTime - 1, at(9999, 12, 31, 23, 59, 58), "9999-12-31 23:59:58", 24, "99991231235958Z", 5},
	{api.MaxTime, at(9999, 12, 31, 23, 59, 59), "9999-12-31 23:59:59", 24, "99991231235959Z", 5},
}

// noTimes: beyond both ends, by one and by as much as there is.
var noTimes = []int{
	api.MinTime - 1, api.MinTime - 2, api.MinTime - day, api.MinTime - 366*day, -1 << 40, math.MinInt + 1, math.MinInt,
	api.MaxTime + 1, api.MaxTime + 2, api.MaxTime + day, api.MaxTime + 366*day, 1 << 40, math.MaxInt - 1, math.MaxInt,
	math.MinInt - api.MinTime, math.MaxInt + api.MinTime, // what wraps round, counted from MinTime on
}

// P4.2
func TestCivil(t *testing.T) {
	for _, k := range known {
		if c, e := clock.Civil(k.t); c != k.c || e != api.OK {
			t.Errorf("Civil(%d): %v, error %d; want %v", k.t, c, e, k.c)
		}
		if n, e := clock.Seconds(k.c); n != k.t || e != api.OK {
			t.Errorf("Seconds(%v): %d, error %d; want %d", k.c, n, e, k.t)
		}
	}
}

// P4.2
func TestNoTime(t *testing.T) {
	for _, n := range noTimes {
		if c, e := clock.Civil(n); c != (api.Civil{}) || e != api.ErrTime {
			t.Errorf("Civil(%d): %v, error %d", n, c, e)
		}
	}
}

// P4.2: from a time in the calendar that may be, each field one too small, one too great, and far out.
func TestEachFieldOut(t *testing.T) {
	bases := []struct {
		c    api.Civil
		days int
	}{
		{at(1950, 1, 1, 0, 0, 0), 31}, {at(9999, 12, 31, 23, 59, 59), 31}, {at(1970, 1, 1, 0, 0, 0), 31},
		{at(2000, 2, 29, 12, 30, 30), 29}, {at(2001, 2, 28, 12, 30, 30), 28}, {at(2024, 4, 30, 23, 0, 59), 30},
	}
	for _, b := range bases {
		fields := []struct {
			name      string
			field     func(c *api.Civil) *int
			low, high int
		}{
			{"Year", func(c *api.Civil) *int { return &c.Year }, 1950, 9999},
			{"Month", func(c *api.Civil) *int { return &c.Month }, 1, 12},
			{"Day", func(c *api.Civil) *int { return &c.Day }, 1, b.days},
			{"Hour", func(c *api.Civil) *int { return &c.Hour }, 0, 23},
			{"Minute", func(c *api.Civil) *int { return &c.Minute }, 0, 59},
			{"Second", func(c *api.Civil) *int { return &c.Second }, 0, 59},
		}
		for _, f := range fields {
			for _, n := range []int{f.low - 1, f.low - 2, f.low - 100, f.high + 1, f.high + 2, f.high + 100, 1 << 32, 1 << 58, 1 << 60, 1 << 62, -1 << 62, math.MaxInt, math.MinInt} {
				c := b.c
				*f.field(&c) = n
				if got, e := clock.Seconds(c); got != 0 || e != api.ErrTime {
					t.Errorf("%s %d of %v: %d, error %d", f.name, n, c, got, e)
				}
			}
			for _, n := range []int{f.low, f.high} {
				c := b.c
				c.Day = 1 // that all months and years have
				*f.field(&c) = n
				got, e := clock.Seconds(c)
				if want := unix(c); got != want || e != api.OK {
					t.Errorf("%s %d of %v: %d, error %d; want %d", f.name, n, c, got, e, want)
				}
			}
		}
	}
	for _, c := range []api.Civil{{}, at(0, 1, 1, 0, 0, 0), at(1950, 0, 0, 0, 0, 0), at(-1970, 1, 1, 0, 0, 0), at(70, 1, 1, 0, 0, 0), at(2000, 1, 1, 24, 0, 0), at(2016, 12, 31, 23, 59, 60)} {
		if got, e := clock.Seconds(c); got != 0 || e != api.ErrTime {
			t.Errorf("Seconds(%v): %d, error %d", c, got, e)
		}
	}
}

// unix reckons a time in the calendar by the library.
func unix(c api.Civil) int {
	return int(time.Date(c.Year, time.Month(c.Month), c.Day, c.Hour, c.Minute, c.Second, 0, time.UTC).Unix())
}

// civil is a time in the calendar of the library.
func civil(t int) api.Civil {
	u := time.Unix(int64(t), 0).UTC()
	return at(u.Year(), int(u.Month()), u.Day(), u.Hour(), u.Minute(), u.Second())
}

// P4.2: the days 0 to 32 of each month, in years of each kind.
func TestDaysOfMonths(t *testing.T) {
	for _, year := range []int{1950, 1951, 1952, 1970, 1999, 2000, 2001, 2023, 2024, 2049, 2050, 2100, 2200, 2300, 2400, 9996, 9999} {
		leap := year == 1952 || year == 2000 || year == 2024 || year == 2400 || year == 9996
		for i, days := range row(leap) {
			for d := range 33 {
				c := at(year, i+1, d, 23, 59, 59)
				got, e := clock.Seconds(c)
				if d < 1 || d > days {
					if got != 0 || e != api.ErrTime {
						t.Errorf("Seconds(%v): %d, error %d", c, got, e)
					}
				} else if got != unix(c) || e != api.OK {
					t.Errorf("Seconds(%v): %d, error %d; want %d", c, got, e, unix(c))
				}
			}
		}
	}
}
