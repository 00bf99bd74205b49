package numfmt

// The names of the year's months and of the week's days, from the first on.
var (
	months   = [12]string{"January", "February", "March", "April", "May", "June", "July", "August", "September", "October", "November", "December"}
	weekdays = [7]string{"Sunday", "Monday", "Tuesday", "Wednesday", "Thursday", "Friday", "Saturday"}
)

// shortName is as many letters as a short name has.
const shortName = 3

// Month is the name of a month, from 1 on, whole or its first letters.
func Month(n int, long bool) string {
	if n < 1 || n > len(months) {
		return ""
	}
	return named(months[n-1], long)
}

// Weekday is the name of a day of the week, of which Sunday is 1, whole or its first letters.
func Weekday(n int, long bool) string {
	if n < 1 || n > len(weekdays) {
		return ""
	}
	return named(weekdays[n-1], long)
}

func named(name string, long bool) string {
	if long {
		return name
	}
	return name[:shortName]
}
