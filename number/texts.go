package number

import (
	"strconv"
	"strings"

	"gridiron/api"
)

// The forms of texts, in which a 0 stands for any digit.
const (
	dateForm    = "0000-00-00"
	clockForm   = "00:00:00"
	minutesForm = "00M00S"
)

// DateText is the text of the date and the time that are nearest to a number; without the time, if that is 0.
func DateText(x float64) (string, api.Errno) {
	day, hour, minute, second, errno := Clock(x)
	if errno != api.OK {
		return "", errno
	}
	y, m, d := dateOf(day)
	date := padded(int64(y), 4) + "-" + twoDigits(m) + "-" + twoDigits(d)
	if hour == 0 && minute == 0 && second == 0 {
		return date, api.OK
	}
	return date + "T" + twoDigits(hour) + ":" + twoDigits(minute) + ":" + twoDigits(second), api.OK
}

// ParseDate is the number of a date's text, with or without a time.
func ParseDate(s string) (float64, api.Errno) {
	date, clock, timed := strings.Cut(s, "T")
	n, ok := numbersOf(date, dateForm)
	if !ok {
		return 0, api.ErrDate
	}
	day, errno := FromDate(n[0], n[1], n[2])
	if errno != api.OK || !timed {
		return day, errno
	}
	n, ok = numbersOf(clock, clockForm)
	if !ok || n[0] > 23 || n[1] > 59 || n[2] > 59 {
		return 0, api.ErrDate
	}
	return day + daysIn(int64(n[0]), n[1], n[2]), api.OK
}

// mostSeconds are the most that have a text of a time.
const mostSeconds = 1 << 50

// TimeText is the text of the hours, minutes and seconds that are nearest to a number.
func TimeText(x float64) (string, api.Errno) {
	if !finite(x) {
		return "", api.ErrNumber
	}
	below := x < 0
	if below {
		x = -x
	}
	seconds := secondsOf(x)
	if seconds > mostSeconds {
		return "", api.ErrDate
	}
	hours, minute, second := timeOf(int64(seconds))
	text := "PT" + padded(hours, 2) + "H" + twoDigits(minute) + "M" + twoDigits(second) + "S"
	return signed(below && seconds > 0, text), api.OK
}

// ParseTime is the number of a time's text.
func ParseTime(s string) (float64, api.Errno) {
	s, below := strings.CutPrefix(s, "-")
	s, begun := strings.CutPrefix(s, "PT")
	first, rest, _ := strings.Cut(s, "H")
	hours, ok := hoursOf(first)
	n, filled := numbersOf(rest, minutesForm)
	if !begun || !ok || !filled || n[0] > 59 || n[1] > 59 {
		return 0, api.ErrDate
	}
	x := daysIn(hours, n[0], n[1])
	switch {
	case below && x == 0:
		return 0, api.ErrDate
	case below:
		return -x, api.OK
	}
	return x, api.OK
}

// mostHourDigits are so few that the seconds of their hours can't leave their type.
const mostHourDigits = 13

// hoursOf is the number of hours of a time's text: two digits, or more of which the first is not 0.
func hoursOf(digits string) (int64, bool) {
	n := len(digits)
	if n < 2 || n > mostHourDigits || n > 2 && digits[0] == '0' || !allDigits(digits) {
		return 0, false
	}
	var hours int64
	for _, r := range digits {
		hours = hours*10 + int64(r-'0')
	}
	return hours, true
}

// daysIn is a time as a number of days.
func daysIn(hours int64, minutes, seconds int) float64 {
	return float64(hours*secondsOfHour+int64(minutes*60+seconds)) / secondsOfDay
}

// numbersOf are the numbers that stand in a text in place of a form's noughts, if it has all other signs of the form.
func numbersOf(s, form string) ([]int, bool) {
	if len(s) != len(form) {
		return nil, false
	}
	numbers := []int{0}
	for at, sign := range form {
		got, last := rune(s[at]), len(numbers)-1
		switch {
		case sign == '0' && isDigit(got):
			numbers[last] = numbers[last]*10 + int(got-'0')
		case sign == got:
			numbers = append(numbers, 0)
		default:
			return nil, false
		}
	}
	return numbers, true
}

func twoDigits(n int) string {
	return padded(int64(n), 2)
}

// padded is a number that is not below 0 in at least so many digits.
func padded(n int64, least int) string {
	digits := strconv.FormatInt(n, 10)
	return strings.Repeat("0", max(0, least-len(digits))) + digits
}
