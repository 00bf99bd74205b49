package number

import (
	"math"
	"sort"

	"gridiron/api"
)

const (
	firstDay = -693593 // 0001-01-01
	lastDay  = 2958465 // 9999-12-31
	lastYear = 9999

	monthsOfYear  = 12
	daysOfWeek    = 7
	secondsOfDay  = 86400
	secondsOfHour = 3600
)

// monthDays are the days of each month, of February in a year that is no leap year.
var monthDays = [monthsOfYear]int{31, 28, 31, 30, 31, 30, 31, 31, 30, 31, 30, 31}

// FromDate is how many days a date stands behind 1899-12-30.
func FromDate(y, m, d int) (float64, api.Errno) {
	if !isDate(y, m, d) {
		return 0, api.ErrDate
	}
	day := firstDay + daysAhead(y) + d - 1
	for month := 1; month < m; month++ {
		day += daysOfMonth(y, month)
	}
	return float64(day), api.OK
}

func isDate(y, m, d int) bool {
	return 1 <= y && y <= lastYear && 1 <= m && m <= monthsOfYear && 1 <= d && d <= daysOfMonth(y, m)
}

func daysOfMonth(y, m int) int {
	if m == 2 && isLeap(y) {
		return 29
	}
	return monthDays[m-1]
}

func isLeap(y int) bool {
	return y%4 == 0 && y%100 != 0 || y%400 == 0
}

// daysAhead is how many days the years ahead of a year have, from the year 1 on.
func daysAhead(y int) int {
	years := y - 1
	return years*365 + years/4 - years/100 + years/400
}

// ToDate is the date of the day in which a number lies.
func ToDate(x float64) (int, int, int, api.Errno) {
	day, errno := dayOf(x)
	if errno != api.OK {
		return 0, 0, 0, errno
	}
	y, m, d := dateOf(day)
	return y, m, d, api.OK
}

// dayOf is the day in which a number lies, if that has a date.
func dayOf(x float64) (int, api.Errno) {
	day := math.Floor(x)
	switch {
	case !finite(x):
		return 0, api.ErrNumber
	case day < firstDay || day > lastDay:
		return 0, api.ErrDate
	}
	return int(day), api.OK
}

// dateOf is the date of a day that has one.
func dateOf(day int) (int, int, int) {
	left := day - firstDay
	y := 1 + sort.Search(lastYear-1, func(years int) bool {
		return daysAhead(years+2) > left
	})
	left -= daysAhead(y)
	m := 1
	for left >= daysOfMonth(y, m) {
		left -= daysOfMonth(y, m)
		m++
	}
	return y, m, left + 1
}

// Weekday is the weekday of the day in which a number lies: 1 of a Sunday to 7 of a Saturday.
func Weekday(x float64) (int, api.Errno) {
	day, errno := dayOf(x)
	if errno != api.OK {
		return 0, errno
	}
	// the first day is a Monday
	return (day-firstDay+1)%daysOfWeek + 1, api.OK
}

// Clock is the day, hour, minute and second that are nearest to a number.
func Clock(x float64) (int, int, int, int, api.Errno) {
	if !finite(x) {
		return 0, 0, 0, 0, api.ErrNumber
	}
	seconds := secondsOf(x)
	if seconds < firstDay*secondsOfDay || seconds >= (lastDay+1)*secondsOfDay {
		return 0, 0, 0, 0, api.ErrDate
	}
	// counted from the first day on none are below 0, so that quotients are rounded down
	past := int64(seconds) - firstDay*secondsOfDay
	day := int(past/secondsOfDay) + firstDay
	hour, minute, second := timeOf(past % secondsOfDay)
	return day, int(hour), minute, second, api.OK
}

// secondsOf is the whole number of seconds that is nearest to a number of days.
func secondsOf(x float64) float64 {
	// float64, so that the product is rounded by itself on each machine
	return math.Floor(float64(x*secondsOfDay) + 0.5)
}

// timeOf is a number of seconds as hours, minutes and seconds.
func timeOf(seconds int64) (int64, int, int) {
	rest := int(seconds % secondsOfHour)
	return seconds / secondsOfHour, rest / 60, rest % 60
}
