package clock

import (
	"strings"

	"chancery/api"
)

const (
	shortYear  = 2  // digits that UTCTime has of a year
	longYear   = 4  // and GeneralizedTime
	fieldWidth = 2  // digits of each other field
	fieldCount = 5  // how many of these there are
	turn       = 50 // two digits from here on are a year of the century ahead
)

// yearWidth tells how many digits of a year a content of that tag has.
func yearWidth(tag int) int {
	if tag == utcTime {
		return shortYear
	}
	return longYear
}

// digits tells numbers, each by its last digits, as many as the width says, with a sign between one and the next.
func digits(width int, sign string, numbers ...int) string {
	var l []string
	for _, n := range numbers {
		b := make([]byte, width)
		for i := range width {
			b[width-1-i] = byte('0' + n%10)
			n /= 10
		}
		l = append(l, string(b))
	}
	return strings.Join(l, sign)
}

// isForm tells whether a content is the digits of a year and those of the fields behind it, and a Z.
func isForm(content []byte, width int) bool {
	count := width + fieldCount*fieldWidth
	if len(content) != count+len(zone) || string(content[count:]) != zone {
		return false
	}
	for _, c := range content[:count] {
		if c < '0' || c > '9' {
			return false
		}
	}
	return true
}

// fields reads the fields of a content that has its form; of the year only the digits that are there.
func fields(content []byte, width int) api.Civil {
	var l [fieldCount]int
	for i := range l {
		at := width + i*fieldWidth
		l[i] = number(content[at : at+fieldWidth])
	}
	return api.Civil{Year: number(content[:width]), Month: l[0], Day: l[1], Hour: l[2], Minute: l[3], Second: l[4]}
}

// number reads digits.
func number(b []byte) int {
	n := 0
	for _, c := range b {
		n = 10*n + int(c-'0')
	}
	return n
}

// fullYear is the year from 1950 to 2049 that ends in these two digits.
func fullYear(short int) int {
	if short < turn {
		return 2000 + short
	}
	return 1900 + short
}
