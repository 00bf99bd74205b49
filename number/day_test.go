package number_test

import (
	"math"
	"testing"

	"gridiron/api"
	"gridiron/number"
)

// clockOf is all that Clock answers.
func clockOf(x float64) clock {
	day, hour, minute, second, errno := number.Clock(x)
	return clock{day, hour, minute, second, errno}
}

// P8.4: days that are known from elsewhere, and the edges of all dates.
func TestFromDate(t *testing.T) {
	for _, c := range []struct {
		y, m, d int
		want    float64
	}{
		{1899, 12, 30, 0}, {1899, 12, 31, 1}, {1900, 1, 1, 2}, {1899, 12, 29, -1}, {1899, 12, 1, -29}, {1900, 2, 28, 60}, {1900, 3, 1, 61}, {1970, 1, 1, 25569}, {2000, 1, 1, 36526}, {2000, 2, 29, 36585}, {2000, 3, 1, 36586}, {2026, 11, 17, 46343}, {1, 1, 1, first}, {1, 1, 2, first + 1}, {1, 12, 31, first + 364}, {2, 1, 1, first + 365}, {9999, 12, 31, last}, {9999, 12, 30, last - 1}, {9999, 1, 1, last - 364}, {1582, 10, 4, -115869}, {1582, 10, 5, -115868}, {1582, 10, 15, -115858}, {1752, 9, 3, -53808}, {1600, 2, 29, -109512}, {4, 2, 29, first + 365*3 + 59},
	} {
		if x, errno := number.FromDate(c.y, c.m, c.d); !same(x, c.want) || errno != api.OK {
			t.Errorf("FromDate(%d, %d, %d): %v, %d, want %v", c.y, c.m, c.d, x, errno, c.want)
		}
	}
}

// P8.4: what is no date, at each edge and far off.
func TestFromDateRefuses(t *testing.T) {
	far := []int{math.MinInt, math.MinInt + 1, math.MinInt32, -400, -1, math.MaxInt32, math.MaxInt32 + 1, 1 << 32, 1<<32 + 1, math.MaxInt - 1, math.MaxInt}
	type date struct{ y, m, d int }
	all := []date{{0, 1, 1}, {0, 12, 31}, {-1, 1, 1}, {10000, 1, 1}, {10000, 12, 31}, {10001, 6, 15}, {2000, 0, 1}, {2000, 13, 1}, {2000, -1, 1}, {2000, 1, 0}, {2000, 1, -1}, {1, 1, 0}, {9999, 12, 32}, {9999, 13, 1}, {1, 0, 1}, {0, 0, 0}, {2000, 0, 0}, {2000, 14, 1}, {2000, 2, 100}}
	for _, n := range far {
		all = append(all, date{n, 1, 1}, date{2000, n, 1}, date{2000, 1, n}, date{n, n, n}, date{2000, 2, n})
	}
	for _, c := range all {
		if x, errno := number.FromDate(c.y, c.m, c.d); !same(x, 0) || errno != api.ErrDate {
			t.Errorf("FromDate(%d, %d, %d): %v, %d", c.y, c.m, c.d, x, errno)
		}
	}
}

// P8.4: the last day of each month, and the one behind it; February of years divisible by 4, by 100 and by 400.
func TestLastDaysOfMonths(t *testing.T) {
	lengths := []int{31, 28, 31, 30, 31, 30, 31, 31, 30, 31, 30, 31}
	for y, february := range map[int]int{1: 28, 3: 28, 4: 29, 100: 28, 200: 28, 300: 28, 400: 29, 1000: 28, 1200: 29, 1582: 28, 1600: 29, 1700: 28, 1896: 29, 1899: 28, 1900: 28, 1904: 29, 1999: 28, 2000: 29, 2001: 28, 2004: 29, 2100: 28, 2400: 29, 9600: 29, 9900: 28, 9996: 29, 9999: 28} {
		lengths[1] = february
		for i, length := range lengths {
			m := i + 1
			x, errno := number.FromDate(y, m, length)
			begin, _ := number.FromDate(y, m, 1)
			if x-begin != float64(length-1) || errno != api.OK {
				t.Errorf("FromDate(%d, %d, %d): %v, %d", y, m, length, x, errno)
			}
			if gotY, gotM, gotD, errno := number.ToDate(x); gotY != y || gotM != m || gotD != length || errno != api.OK {
				t.Errorf("ToDate(%v): %d, %d, %d, %d, want %d, %d, %d", x, gotY, gotM, gotD, errno, y, m, length)
			}
			for _, d := range []int{length + 1, 32, 0} {
				if x, errno := number.FromDate(y, m, d); x != 0 || errno != api.ErrDate {
					t.Errorf("FromDate(%d, %d, %d): %v, %d", y, m, d, x, errno)
				}
			}
		}
	}
}

// P8.4, P8.7: every day that has a date, one behind the other, held against the library's own calendar.
func TestAllDays(t *testing.T) {
	at := dateOf(first)
	for day := first; day <= last; day++ {
		wantY, month, wantD := at.Date()
		wantM := int(month)
		y, m, d, errno := number.ToDate(float64(day))
		if y != wantY || m != wantM || d != wantD || errno != api.OK {
			t.Fatalf("ToDate(%d): %d, %d, %d, %d, want %d, %d, %d", day, y, m, d, errno, wantY, wantM, wantD)
		}
		if x, errno := number.FromDate(y, m, d); !same(x, float64(day)) || errno != api.OK {
			t.Fatalf("FromDate(%d, %d, %d): %v, %d, want %d", y, m, d, x, errno, day)
		}
		if w, errno := number.Weekday(float64(day)); w != int(at.Weekday())+1 || errno != api.OK {
			t.Fatalf("Weekday(%d): %d, %d, want %d", day, w, errno, int(at.Weekday())+1)
		}
		at = at.AddDate(0, 0, 1)
	}
	if y, m, d := at.Date(); y != 10000 || m != 1 || d != 1 {
		t.Errorf("the day behind the last one: %d, %d, %d", y, m, d)
	}
}

// checkDay holds ToDate and Weekday of a finite number against the day in which it lies.
func checkDay(t *testing.T, x float64, day int, has bool) {
	t.Helper()
	y, m, d, errno := number.ToDate(x)
	w, wErrno := number.Weekday(x)
	if !has {
		if y != 0 || m != 0 || d != 0 || errno != api.ErrDate {
			t.Errorf("ToDate(%v): %d, %d, %d, %d", x, y, m, d, errno)
		}
		if w != 0 || wErrno != api.ErrDate {
			t.Errorf("Weekday(%v): %d, %d", x, w, wErrno)
		}
		return
	}
	at := dateOf(day)
	wantY, wantM, wantD := at.Date()
	if y != wantY || m != int(wantM) || d != wantD || errno != api.OK {
		t.Errorf("ToDate(%v): %d, %d, %d, %d, want %s", x, y, m, d, errno, at.Format("2006-01-02"))
	}
	if w != int(at.Weekday())+1 || wErrno != api.OK {
		t.Errorf("Weekday(%v): %d, %d, want %s", x, w, wErrno, at.Weekday())
	}
}

// P8.4: at whole numbers, just above and below them, at the first and the last day and beyond.
func TestToDateAndWeekday(t *testing.T) {
	days := []int{first, first + 1, -400, -7, -1, 0, 1, 2, 7, 60, 61, 36526, 36585, 45000, last - 1, last}
	for _, day := range days {
		x := float64(day)
		checkDay(t, x, day, true)
		checkDay(t, math.Nextafter(x, math.Inf(1)), day, true)
		checkDay(t, math.Nextafter(x, math.Inf(-1)), day-1, day > first)
		checkDay(t, x+0.5, day, true)
		checkDay(t, x+0.9999999, day, true)
		checkDay(t, math.Nextafter(x+1, x), day, true)
	}
	checkDay(t, least, 0, true)
	checkDay(t, -least, -1, true)
	for _, x := range []float64{first - 1, first - 0.5, math.Nextafter(first, -1e9), last + 1, last + 1.5, math.Nextafter(last+1, 1e9)} {
		checkDay(t, x, 0, false)
	}
	if w, _ := number.Weekday(1); w != 1 {
		t.Errorf("Weekday of a Sunday: %d", w)
	}
	if w, _ := number.Weekday(2); w != 2 {
		t.Errorf("Weekday of a Monday: %d", w)
	}
	if w, _ := number.Weekday(36526); w != 7 {
		t.Errorf("Weekday of a Saturday: %d", w)
	}
}

// great are finite floats far from all days: too great for any int, and such as become a day if an int wraps round.
var great = []float64{1e7, 1 << 31, 1<<31 + 1, 1 << 32, 1<<32 + 36526, 1 << 53, 1 << 62, 1 << 63, 1 << 64, 1<<64 + 1<<20, 1e18, 1e19, 1e20, 1e100, 1e303, 1e304, math.MaxFloat64 / 86400, math.MaxFloat64 / 86399, math.MaxFloat64}

// P8.4, P8.5, R1: floats too great for any int, and for the product with the seconds of a day.
func TestGreatDays(t *testing.T) {
	for _, size := range great {
		for _, x := range []float64{size, -size, math.Nextafter(size, 0)} {
			checkDay(t, x, 0, false)
			if got := clockOf(x); got != (clock{errno: api.ErrDate}) {
				t.Errorf("Clock(%v): %v", x, got)
			}
			if text, errno := number.DateText(x); text != "" || errno != api.ErrDate {
				t.Errorf("DateText(%v): %q, %d", x, text, errno)
			}
		}
	}
}

// P8.4: the chapter's example, whole numbers, what lies beside them, and seconds that are rounded up into the next minute, hour and day.
func TestClock(t *testing.T) {
	const second = 1.0 / 86400
	for _, c := range []struct {
		x    float64
		want clock
	}{
		{0.5, clock{0, 12, 0, 0, api.OK}}, {0, clock{}}, {1, clock{day: 1}}, {-1, clock{day: -1}}, {36526, clock{day: 36526}}, {36526.25, clock{36526, 6, 0, 0, api.OK}}, {-0.25, clock{-1, 18, 0, 0, api.OK}}, {-0.5, clock{-1, 12, 0, 0, api.OK}}, {-1.75, clock{-2, 6, 0, 0, api.OK}}, {0.75, clock{0, 18, 0, 0, api.OK}}, {1.0 / 24, clock{0, 1, 0, 0, api.OK}}, {1.0 / 1440, clock{0, 0, 1, 0, api.OK}}, {second, clock{0, 0, 0, 1, api.OK}}, {59 * second, clock{0, 0, 0, 59, api.OK}}, {-second, clock{-1, 23, 59, 59, api.OK}}, {1 - second, clock{0, 23, 59, 59, api.OK}}, {1 - 60*second, clock{0, 23, 59, 0, api.OK}},
		// beside whole numbers
		{least, clock{}}, {-least, clock{}}, {math.Nextafter(1, 0), clock{day: 1}}, {math.Nextafter(1, 2), clock{day: 1}}, {math.Nextafter(-1, 0), clock{day: -1}}, {math.Nextafter(-1, -2), clock{day: -1}}, {math.Nextafter(36526, 0), clock{day: 36526}},
		// halves of seconds, and what lies beside them
		{0.5 * second, clock{0, 0, 0, 1, api.OK}}, {0.49 * second, clock{}}, {0.51 * second, clock{0, 0, 0, 1, api.OK}}, {1.49 * second, clock{0, 0, 0, 1, api.OK}}, {1.51 * second, clock{0, 0, 0, 2, api.OK}}, {-0.49 * second, clock{}}, {-0.51 * second, clock{-1, 23, 59, 59, api.OK}}, {-1.49 * second, clock{-1, 23, 59, 59, api.OK}}, {-1.51 * second, clock{-1, 23, 59, 58, api.OK}}, {-0.5 * second, clock{}},
		// rounded up
		{59.6 * second, clock{0, 0, 1, 0, api.OK}}, {3599.6 * second, clock{0, 1, 0, 0, api.OK}}, {1 - 0.4*second, clock{day: 1}}, {1 - 0.6*second, clock{0, 23, 59, 59, api.OK}}, {36526 - 0.4*second, clock{day: 36526}}, {-0.4 * second, clock{}}, {-1 - 0.4*second, clock{day: -1}}, {0.9999999, clock{day: 1}}, {45000.999999, clock{day: 45001}},
		// the first and the last day, and beyond
		{first, clock{day: first}}, {first + 0.5, clock{first, 12, 0, 0, api.OK}}, {first - 0.4*second, clock{day: first}}, {first - 0.6*second, clock{errno: api.ErrDate}}, {first - 1, clock{errno: api.ErrDate}}, {first - 0.5, clock{errno: api.ErrDate}}, {last, clock{day: last}}, {last + 0.5, clock{last, 12, 0, 0, api.OK}}, {last + 1 - second, clock{last, 23, 59, 59, api.OK}}, {last + 1 - 0.6*second, clock{last, 23, 59, 59, api.OK}}, {last + 1 - 0.4*second, clock{errno: api.ErrDate}}, {last + 1, clock{errno: api.ErrDate}}, {last + 2, clock{errno: api.ErrDate}},
		{math.Nextafter(first, -1e9), clock{day: first}}, {math.Nextafter(last+1, 0), clock{errno: api.ErrDate}},
	} {
		if got := clockOf(c.x); got != c.want {
			t.Errorf("Clock(%v): %v, want %v", c.x, got, c.want)
		}
		checkClock(t, c.x)
	}
}

// checkClock holds Clock of a finite number against the model.
func checkClock(t *testing.T, x float64) {
	t.Helper()
	if got, want := clockOf(x), modelClock(x); got != want {
		t.Errorf("Clock(%v): %v, want %v", x, got, want)
	}
}

// P8.4: halves of seconds and their neighbours; the product is rounded by itself, and so is the sum: some of them come to another second, if the product is not.
func TestClockRoundsTwice(t *testing.T) {
	apart := 0
	d := draws(7)
	for i := range 20000 {
		half := float64(i/40*d.below(200)) + 0.5
		if i%2 > 0 {
			half = -half
		}
		x := half / 86400
		for range d.below(4) {
			x = math.Nextafter(x, 0)
		}
		for range d.below(4) {
			x = math.Nextafter(x, 2*x)
		}
		checkClock(t, x)
		if math.Floor(math.FMA(x, 86400, 0.5)) != math.Floor(float64(x*86400)+0.5) {
			apart++
		}
	}
	if apart == 0 {
		t.Error("no number tells the two apart")
	}
}

// P8.4: every second of some days.
func TestClockOfEachSecond(t *testing.T) {
	for _, day := range []int{first, -1, 0, 45000, last} {
		for s := range 86400 {
			want := clock{day, s / 3600, s / 60 % 60, s % 60, api.OK}
			if got := clockOf(float64(day) + float64(s)/86400); got != want {
				t.Fatalf("Clock of day %d, second %d: %v", day, s, got)
			}
		}
	}
}

// P8.4: drawn numbers, of all exponents and among the days.
func TestClockDrawn(t *testing.T) {
	d := draws(8)
	for range 20000 {
		checkClock(t, d.float())
		x := float64(first-3+d.below(last-first+7)) + float64(d.next()>>11)/(1<<53)
		checkClock(t, x)
		day := int(math.Floor(x))
		checkDay(t, x, day, first <= day && day <= last)
		checkClock(t, math.Ldexp(float64(d.next()), -d.below(140)))
	}
}

// P8.7: drawn days: back from a date to the day, and on to the day behind.
func TestDaysOneBehindTheOther(t *testing.T) {
	d := draws(9)
	for range 50000 {
		day := first + d.below(last-first)
		y, m, dd, errno := number.ToDate(float64(day))
		x, back := number.FromDate(y, m, dd)
		if !same(x, float64(day)) || errno != api.OK || back != api.OK {
			t.Errorf("FromDate of ToDate of %d: %v, %d, %d", day, x, errno, back)
		}
		next, errno := number.FromDate(y, m, dd+1)
		if errno != api.OK {
			next, errno = number.FromDate(y, m+1, 1)
		}
		if errno != api.OK {
			next, errno = number.FromDate(y+1, 1, 1)
		}
		if next != x+1 || errno != api.OK {
			t.Errorf("the day behind %d-%d-%d: %v, %d, want %v", y, m, dd, next, errno, x+1)
		}
	}
}
