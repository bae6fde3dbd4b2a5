package clock_test

import (
	"math"
	"testing"

	"chancery/clock"
)

// years: of each kind, at both sides of 0, and the least and greatest numbers there are.
var years = []struct {
	year int
	leap bool
}{
	{0, true}, {1, false}, {2, false}, {3, false}, {4, true}, {5, false}, {8, true},
	{-1, false}, {-2, false}, {-3, false}, {-4, true}, {-5, false}, {-8, true},
	{96, true}, {100, false}, {104, true}, {200, false}, {300, false}, {396, true}, {400, true}, {404, true}, {500, false},
	{-96, true}, {-100, false}, {-104, true}, {-200, false}, {-300, false}, {-400, true}, {-404, true}, {-500, false}, {-2000, true},
	{1896, true}, {1900, false}, {1949, false}, {1950, false}, {1952, true}, {1999, false}, {2000, true}, {2001, false},
	{2023, false}, {2024, true}, {2048, true}, {2049, false}, {2050, false}, {2100, false}, {2200, false}, {2300, false}, {2400, true},
	{9996, true}, {9999, false}, {10000, true}, {100000, true}, {1 << 31, true}, {1<<31 - 1, false},
	{math.MaxInt, false}, {math.MaxInt - 1, false}, {math.MaxInt - 2, false}, {math.MaxInt - 3, true},
	{math.MaxInt - 7, false}, {math.MaxInt - 107, false}, {math.MaxInt - 207, true}, // they end in 5800, 5700, 5600
	{math.MinInt, true}, {math.MinInt + 1, false}, {math.MinInt + 2, false}, {math.MinInt + 4, true},
	{math.MinInt + 8, false}, {math.MinInt + 108, false}, {math.MinInt + 208, true}, // these too
}

// months: the days of each, in leap years and in others.
var months = [2][12]int{
	{31, 28, 31, 30, 31, 30, 31, 31, 30, 31, 30, 31},
	{31, 29, 31, 30, 31, 30, 31, 31, 30, 31, 30, 31},
}

// row is the row of months for a year.
func row(leap bool) [12]int {
	if leap {
		return months[1]
	}
	return months[0]
}

// P4.1
func TestLeap(t *testing.T) {
	for _, c := range years {
		if clock.Leap(c.year) != c.leap {
			t.Errorf("Leap(%d): %t", c.year, !c.leap)
		}
	}
}

// P4.1: years one behind the other, with the three divisions counted along instead of reckoned.
func TestLeapCounted(t *testing.T) {
	four, hundred, fourHundred := 0, 0, 0
	for year := -12000; year <= 12000; year++ {
		want := four == 0 && hundred != 0 || fourHundred == 0
		if clock.Leap(year) != want {
			t.Errorf("Leap(%d): %t", year, !want)
		}
		four, hundred, fourHundred = (four+1)%4, (hundred+1)%100, (fourHundred+1)%400
	}
}

// P4.1: each month of years of each kind, whether they have times or not.
func TestDays(t *testing.T) {
	for _, c := range years {
		for i, want := range row(c.leap) {
			if n := clock.Days(c.year, i+1); n != want {
				t.Errorf("Days(%d, %d): %d; want %d", c.year, i+1, n, want)
			}
		}
	}
}

// P4.1: what is no month has no days, in whatever year.
func TestNoMonth(t *testing.T) {
	for _, c := range years {
		for _, month := range []int{0, -1, -2, -11, -12, 13, 14, 24, 25, 256 + 2, 1<<32 + 2, math.MaxInt, math.MinInt, math.MinInt + 1} {
			if n := clock.Days(c.year, month); n != 0 {
				t.Errorf("Days(%d, %d): %d", c.year, month, n)
			}
		}
	}
}
