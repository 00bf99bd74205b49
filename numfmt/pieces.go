package numfmt

import (
	"math"
	"slices"
	"strings"

	"gridiron/api"
	"gridiron/number"
	"gridiron/value"
)

// said is what a format's pieces may tell of a value: of a text or a truth its text, of a number its size, of a day and a time their parts.
type said struct {
	text  string
	below bool
	size  float64

	year, month, day, weekday int

	hour, hours, minute, second int // hours: as a PHours tells them
}

// say is what a format's pieces may tell of a value that goes with it, if there is something.
func say(f api.Format, v api.Value) (said, bool) {
	switch f.Kind {
	case api.FText, api.FBool:
		return said{text: general(v)}, true
	case api.FDate, api.FTime:
		return sayTime(f, v.Num)
	}
	return sayAmount(f.Kind, v.Num)
}

func sayAmount(kind int, x float64) (said, bool) {
	if kind == api.FPercent {
		v := value.Reckon(x * 100)
		if v.Kind != api.VNum {
			return said{}, false
		}
		x = v.Num
	}
	return said{below: x < 0, size: math.Abs(x)}, true
}

// sayTime is the date and the time of the second that is nearest to a number, if that has a date.
func sayTime(f api.Format, x float64) (said, bool) {
	day, hour, minute, second, errno := number.Clock(x)
	if errno != api.OK || f.Whole && x < 0 {
		return said{}, false
	}
	// by the day of the clock, which may be the one behind that of the number; it has a date
	y, m, d, _ := number.ToDate(float64(day))
	weekday, _ := number.Weekday(float64(day))
	return said{
		year: y, month: m, day: d, weekday: weekday,
		hour: hour, hours: hoursTold(f, day, hour), minute: minute, second: second,
	}, true
}

// hoursTold are the hours as a PHours of a format tells them.
func hoursTold(f api.Format, day, hour int) int {
	isHalf := func(p api.Piece) bool { return p.Kind == api.PHalf }
	switch {
	case f.Whole:
		return hour + 24*day
	case slices.ContainsFunc(f.Pieces, isHalf):
		return (hour+11)%12 + 1
	}
	return hour
}

// way is how the pieces of a kind tell something of what is said.
type way struct {
	show func(p api.Piece, s said) string
}

// ways are those of all kinds of pieces, by their numbers.
func ways() [api.PHalf + 1]way {
	return [api.PHalf + 1]way{
		api.PText:     {showText},
		api.PNumber:   {showNumber},
		api.PSci:      {showSci},
		api.PSign:     {func(_ api.Piece, s said) string { return s.text }},
		api.PSymbol:   {showText},
		api.PDay:      {func(p api.Piece, s said) string { return short(s.day, p.Long) }},
		api.PMonth:    {func(p api.Piece, s said) string { return short(s.month, p.Long) }},
		api.PMonthTxt: {func(p api.Piece, s said) string { return Month(s.month, p.Long) }},
		api.PYear:     {showYear},
		api.PWeekday:  {func(p api.Piece, s said) string { return Weekday(s.weekday, p.Long) }},
		api.PHours:    {func(p api.Piece, s said) string { return short(s.hours, p.Long) }},
		api.PMinutes:  {func(p api.Piece, s said) string { return short(s.minute, p.Long) }},
		api.PSeconds:  {showSeconds},
		api.PHalf:     {showHalf},
	}
}

func showText(p api.Piece, _ said) string {
	return p.Text
}

// showNumber and showSci are of pieces that Check has taken and of a size that is finite, of which there is no error.
func showNumber(p api.Piece, s said) string {
	text, _ := Number(s.size, p.Min, p.Places, p.Group)
	return text
}

func showSci(p api.Piece, s said) string {
	text, _ := Sci(s.size, p.Min, p.Places, p.Exp)
	return text
}

func showYear(p api.Piece, s said) string {
	if p.Long {
		return counted(s.year, 4)
	}
	return counted(s.year%100, 2)
}

func showSeconds(p api.Piece, s said) string {
	return pointed(short(s.second, p.Long), strings.Repeat("0", p.Places))
}

func showHalf(_ api.Piece, s said) string {
	if s.hour < 12 {
		return "AM"
	}
	return "PM"
}

// short is a number that is not below 0 in as few digits as it has, or, if long, in at least two.
func short(n int, long bool) string {
	if long {
		return counted(n, 2)
	}
	return counted(n, 1)
}
