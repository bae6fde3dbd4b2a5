package clock

import "chancery/api"

const (
	minYear  = 1950 // it begins at MinTime
	maxYear  = 9999 // it ends at MaxTime
	months   = 12
	february = 2

	yearDays   = 365
	weekDays   = 7
	cycleYears = 400 // behind which leap years come in the same order again
	cycleDays  = cycleYears*yearDays + 97

	dayHours      = 24
	hourMinutes   = 60
	minuteSeconds = 60
	hourSeconds   = hourMinutes * minuteSeconds
	daySeconds    = dayHours * hourSeconds
)

// monthDays: the days of each month, in years that are no leap years.
var monthDays = [months]int{31, 28, 31, 30, 31, 30, 31, 31, 30, 31, 30, 31}

// isTime tells whether a number of seconds is a time.
func isTime(t int) bool { return t >= api.MinTime && t <= api.MaxTime }

// split is a time's day, counted from that of MinTime on, and the second of that day. From there on no time is below 0, so that a division goes down.
func split(t int) (day, second int) {
	return (t - api.MinTime) / daySeconds, (t - api.MinTime) % daySeconds
}

// daysOf tells how many days a year has.
func daysOf(year int) int {
	if Leap(year) {
		return yearDays + 1
	}
	return yearDays
}

// yearOf finds the year in which a day lies, and which day of that year it is, from 0 on.
func yearOf(day int) (year, rest int) {
	// Whole cycles are all alike: the loop goes over less than one.
	year, rest = minYear+day/cycleDays*cycleYears, day%cycleDays
count:
	for {
		switch n := daysOf(year); {
		case rest < n:
			break count
		default:
			rest -= n
			year++
		}
	}
	return year, rest
}

// monthOf finds the month in which a day of a year lies, and which day of that month it is, from 0 on.
func monthOf(year, day int) (month, rest int) {
	month, rest = 1, day
	for rest >= Days(year, month) {
		rest -= Days(year, month)
		month++
	}
	return month, rest
}

// yearBegin counts the days ahead of a year.
func yearBegin(year int) int {
	cycles := (year - minYear) / cycleYears
	day := cycles * cycleDays
	for y := minYear + cycles*cycleYears; y < year; y++ {
		day += daysOf(y)
	}
	return day
}

// monthBegin counts the days of a year ahead of one of its months.
func monthBegin(year, month int) int {
	day := 0
	for m := 1; m < month; m++ {
		day += Days(year, m)
	}
	return day
}

// bounded brings each field to the nearest one that may be there: just what is a time in the calendar stays as it is.
func bounded(c api.Civil) api.Civil {
	year, month := between(c.Year, minYear, maxYear), between(c.Month, 1, months)
	return api.Civil{
		Year: year, Month: month, Day: between(c.Day, 1, Days(year, month)),
		Hour: between(c.Hour, 0, dayHours-1), Minute: between(c.Minute, 0, hourMinutes-1), Second: between(c.Second, 0, minuteSeconds-1),
	}
}

// between is the number from low to high that is nearest to n.
func between(n, low, high int) int { return min(max(n, low), high) }
