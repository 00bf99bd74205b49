package number_test

import (
	"math"
	"strconv"
	"strings"
	"sync"
	"testing"

	"gridiron/api"
	"gridiron/number"
)

// P8.5: the chapter's examples, digits that are filled up, times and none, and seconds that are rounded up into the next day.
func TestDateText(t *testing.T) {
	const second = 1.0 / 86400
	for _, c := range []struct {
		x    float64
		want string
	}{
		{36526, "2000-01-01"}, {36526.5, "2000-01-01T12:00:00"}, {0, "1899-12-30"}, {-1, "1899-12-29"}, {1, "1899-12-31"}, {2, "1900-01-01"}, {-0.25, "1899-12-29T18:00:00"}, {36585.25, "2000-02-29T06:00:00"}, {36526 + second, "2000-01-01T00:00:01"}, {36526 + 60*second, "2000-01-01T00:01:00"}, {36526 + 3600*second, "2000-01-01T01:00:00"}, {36527 - second, "2000-01-01T23:59:59"},
		{36526 + 0.4*second, "2000-01-01"}, {36526 - 0.4*second, "2000-01-01"}, {36526.9999999, "2000-01-02"}, {math.Nextafter(36526, 0), "2000-01-01"}, {math.Nextafter(36526, 4e4), "2000-01-01"}, {36526 - 0.6*second, "1999-12-31T23:59:59"}, {36891.9999999, "2001-01-01"}, {36584.9999999, "2000-02-29"}, {36585.9999999, "2000-03-01"}, {-0.4 * second, "1899-12-30"}, {-0.6 * second, "1899-12-29T23:59:59"}, {least, "1899-12-30"}, {-least, "1899-12-30"},
		{first, "0001-01-01"}, {first + 0.5, "0001-01-01T12:00:00"}, {first - 0.4*second, "0001-01-01"}, {first + 31, "0001-02-01"}, {last, "9999-12-31"}, {last + 1 - second, "9999-12-31T23:59:59"}, {-328351, "1001-01-01"}, {-328352, "1000-12-31"}, {-657434, "0100-01-01"}, {-657435, "0099-12-31"}, {-690306, "0010-01-01"}, {-690307, "0009-12-31"},
	} {
		if text, errno := number.DateText(c.x); text != c.want || errno != api.OK {
			t.Errorf("DateText(%v): %q, %d, want %q", c.x, text, errno, c.want)
		}
	}
	for _, x := range []float64{first - 1, first - 0.6*second, last + 1, last + 1 - 0.4*second, last + 0.9999999} {
		if text, errno := number.DateText(x); text != "" || errno != api.ErrDate {
			t.Errorf("DateText(%v): %q, %d", x, text, errno)
		}
	}
}

// wantDate holds ParseDate to the bit.
func wantDate(t *testing.T, s string, want float64, wantErrno api.Errno) {
	t.Helper()
	if x, errno := number.ParseDate(s); !same(x, want) || errno != wantErrno {
		t.Errorf("ParseDate(%s): %v, %d, want %v, %d", short(s), x, errno, want, wantErrno)
	}
}

// checkParseDate holds ParseDate against the model.
func checkParseDate(t *testing.T, s string) {
	t.Helper()
	want, wantErrno := modelParseDate(s)
	wantDate(t, s, want, wantErrno)
}

// P8.5: dates with times and without, at all edges of their parts.
func TestParseDate(t *testing.T) {
	for s, want := range map[string]float64{
		"1899-12-30": 0, "1899-12-30T00:00:00": 0, "1899-12-29": -1, "1899-12-29T00:00:00": -1, "2000-01-01": 36526, "2000-01-01T00:00:00": 36526, "2000-01-01T12:00:00": 36526.5, "2000-01-01T06:00:00": 36526.25, "2000-02-29": 36585, "1899-12-29T18:00:00": -0.25, "0001-01-01": first, "0001-01-01T12:00:00": first + 0.5, "9999-12-31": last, "9999-12-31T18:00:00": last + 0.75, "1899-12-30T23:59:59": 86399.0 / 86400, "1899-12-30T00:00:01": 1.0 / 86400, "1899-12-30T00:01:00": 60.0 / 86400, "1899-12-30T01:00:00": 1.0 / 24, "1899-12-31T23:59:59": 1 + 86399.0/86400, "2000-01-01T23:59:59": 36526 + 86399.0/86400,
	} {
		wantDate(t, s, want, api.OK)
	}
}

// P8.5: each part that may not be, and each length one less and one more.
func TestParseDateRefuses(t *testing.T) {
	for _, s := range []string{
		"", "T", "0000-01-01", "0000-12-31", "0000-00-00", "2000-00-01", "2000-13-01", "2000-99-01", "2000-01-00", "2000-01-32", "2000-04-31", "2000-02-30", "1900-02-29", "2001-02-29", "2100-02-29", "2000-06-31", "2000-09-31", "2000-11-31", "2000-12-99",
		"2000-01-01T24:00:00", "2000-01-01T23:60:00", "2000-01-01T23:59:60", "2000-01-01T25:00:00", "2000-01-01T99:00:00", "2000-01-01T00:99:00", "2000-01-01T00:00:99", "2000-02-30T12:00:00", "0000-01-01T00:00:00", "2000-13-01T00:00:00",
		"200-01-01", "20000-01-01", "10000-01-01", "02000-01-01", "2000-1-01", "2000-001-01", "2000-01-1", "2000-01-001", "00-01-01", "2000-1-1", "-2000-01-01", "+2000-01-01", "-200-01-01", "+200-01-01",
		"2000-01-01T0:00:00", "2000-01-01T000:00:00", "2000-01-01T00:0:00", "2000-01-01T00:000:00", "2000-01-01T00:00:0", "2000-01-01T00:00:000", "2000-01-01T00:00", "2000-01-01T00", "2000-01-01T", "2000-01-01T00:00:", "2000-01-01T:00:00", "2000-01-01T-1:00:00", "2000-01-01T00:-1:00", "2000-01-01T00:00:+1",
		"2000-01-01T00:00:00Z", "2000-01-01T00:00:00.0", "2000-01-01T00:00:00.5", "2000-01-01T00:00:00+00:00", "2000-01-01t00:00:00", "2000-01-01 00:00:00", "2000-01-0100:00:00", "2000-01-01TT00:00:00", "2000-01-01T00:00:00T", "2000-01-01T00:00:00T00:00:00", "T00:00:00", "00:00:00", "2000-01-01T2000-01-01",
		"2000/01/01", "2000.01.01", "20000101", "2000-01", "2000", "2000-01-", "2000--01-01", "2000-01--1", "01-01-2000", "2000:01:01", "2000-01-01T00-00-00", "2000-01-01-", "2000_01_01", "2000-01-01T00:00-00", "2000-01:01",
		" 2000-01-01", "2000-01-01 ", "2000-01-01\n", "2000 01-01", "2000-01-01T 0:00:00", "2000-01-01T00:00:00 ", "2000-01-01\x00", "\x002000-01-01",
		"a000-01-01", "2000-0a-01", "2000-01-0x", "2000-01-01T0a:00:00", "٢000-01-01", "２000-01-01", "2000-01-0\xff", "\xff000-01-01", "2000-01-0\u00b2", "1e10-01-01", "1.00-01-01", "2000-01-01T1e:00:00", "/000-01-01", ":000-01-01", "2000-0/-01", "2000-01-0:", "PT00H00M00S", "36526", "NaN",
		strings.Repeat("2000-01-01T", 3000), strings.Repeat("-", 10), strings.Repeat("0", 10), strings.Repeat("0", 19), strings.Repeat("T", 19), strings.Repeat("9", 1<<16),
	} {
		wantDate(t, s, 0, api.ErrDate)
	}
}

// P8.5: every year with every month and day from 0 on, of some years, and every time of two digits a part, of some days.
func TestParseDateAllParts(t *testing.T) {
	for _, y := range []int{0, 1, 4, 100, 400, 1899, 1900, 1999, 2000, 9996, 9999} {
		for m := range 20 {
			for d := range 40 {
				checkParseDate(t, filled(y, 4)+"-"+filled(m, 2)+"-"+filled(d, 2))
			}
		}
	}
	for y := range 10000 {
		checkParseDate(t, filled(y, 4)+"-02-29")
		checkParseDate(t, filled(y, 4)+"-12-31T23:59:59")
	}
	for h := range 30 {
		for m := range 64 {
			for s := range 64 {
				checkParseDate(t, "2000-01-01T"+filled(h, 2)+":"+filled(m, 2)+":"+filled(s, 2))
			}
		}
	}
	for n := range 100 {
		checkParseDate(t, "2000-01-01T"+filled(n, 2)+":00:00")
		checkParseDate(t, "2000-01-01T00:"+filled(n, 2)+":00")
		checkParseDate(t, "2000-01-01T00:00:"+filled(n, 2))
		checkParseDate(t, "2000-"+filled(n, 2)+"-01")
		checkParseDate(t, "2000-01-"+filled(n, 2))
	}
}

// filled is a number in so many digits at least.
func filled(n, digits int) string {
	text := strconv.Itoa(n)
	for len(text) < digits {
		text = "0" + text
	}
	return text
}

// P8.5, R1: texts spoiled at each place, and all short ones.
func TestParseDateSpoiled(t *testing.T) {
	for _, s := range []string{"2000-01-01", "1999-12-31T23:59:59", "0001-01-01T00:00:00", "2000-02-29"} {
		spoiled(s, func(s string) { checkParseDate(t, s) })
	}
	texts(single("0129-:T "), 5, func(s string) {
		wantDate(t, s, 0, api.ErrDate)
		checkParseDate(t, "2000-01"+s)
		checkParseDate(t, s+"9-12-10")
		checkParseDate(t, "2000-01-01T12:0"+s)
	})
}

// P8.5: the chapter's examples, hours of two digits and more, a - and none, and where texts end.
func TestTimeText(t *testing.T) {
	const second = 1.0 / 86400
	for _, c := range []struct {
		x    float64
		want string
	}{
		{1.5, "PT36H00M00S"}, {0, "PT00H00M00S"}, {0.5, "PT12H00M00S"}, {-0.5, "-PT12H00M00S"}, {-1.5, "-PT36H00M00S"}, {1, "PT24H00M00S"}, {second, "PT00H00M01S"}, {-second, "-PT00H00M01S"}, {59 * second, "PT00H00M59S"}, {60 * second, "PT00H01M00S"}, {3599 * second, "PT00H59M59S"}, {3600 * second, "PT01H00M00S"}, {-3661 * second, "-PT01H01M01S"}, {9.0 / 24, "PT09H00M00S"}, {10.0 / 24, "PT10H00M00S"},
		{99.0 / 24, "PT99H00M00S"}, {100.0 / 24, "PT100H00M00S"}, {-99.0 / 24, "-PT99H00M00S"}, {-100.0 / 24, "-PT100H00M00S"}, {(100*3600 - 1) * second, "PT99H59M59S"}, {(100*3600 - 0.4) * second, "PT100H00M00S"}, {1000.0 / 24, "PT1000H00M00S"}, {36526, "PT876624H00M00S"}, {last + 5, "PT71003280H00M00S"},
		// rounded to whole seconds, of |x|
		{0.4 * second, "PT00H00M00S"}, {-0.4 * second, "PT00H00M00S"}, {0.5 * second, "PT00H00M01S"}, {-0.5 * second, "-PT00H00M01S"}, {-0.6 * second, "-PT00H00M01S"}, {1.4 * second, "PT00H00M01S"}, {-1.4 * second, "-PT00H00M01S"}, {-1.6 * second, "-PT00H00M02S"}, {59.6 * second, "PT00H01M00S"}, {-3599.6 * second, "-PT01H00M00S"}, {least, "PT00H00M00S"}, {-least, "PT00H00M00S"}, {1 - 0.4*second, "PT24H00M00S"},
		// the greatest
		{(1 << 50) * second, "PT312749974122H57M04S"}, {-(1 << 50) * second, "-PT312749974122H57M04S"}, {(1<<50 - 2) * second, "PT312749974122H57M02S"},
	} {
		if text, errno := number.TimeText(c.x); text != c.want || errno != api.OK {
			t.Errorf("TimeText(%v): %q, %d, want %q", c.x, text, errno, c.want)
		}
		checkTimeText(t, c.x)
	}
	for _, size := range []float64{(1<<50 + 1) * second, (1<<50 + 2) * second, (1 << 51) * second, 1e12, 1 << 50, 1<<50 + 1, 1 << 63, 1 << 64, 1e300, 1e304, math.MaxFloat64} {
		for _, x := range []float64{size, -size} {
			if text, errno := number.TimeText(x); text != "" || errno != api.ErrDate {
				t.Errorf("TimeText(%v): %q, %d", x, text, errno)
			}
		}
	}
}

// checkTimeText holds TimeText of a finite number against the model.
func checkTimeText(t *testing.T, x float64) {
	t.Helper()
	text, errno := number.TimeText(x)
	if want, wantErrno := modelTimeText(x); text != want || errno != wantErrno {
		t.Errorf("TimeText(%v): %q, %d, want %q, %d", x, text, errno, want, wantErrno)
	}
}

// P8.5: floats one by one about the greatest that has a text, and drawn ones.
func TestTimeTextAtItsEnd(t *testing.T) {
	x := float64(1<<50) / 86400
	for range 40 {
		x = math.Nextafter(x, 0)
	}
	told := [2]int{}
	for range 80 {
		checkTimeText(t, x)
		checkTimeText(t, -x)
		if _, errno := number.TimeText(x); errno == api.OK {
			told[0]++
		} else {
			told[1]++
		}
		x = math.Nextafter(x, 1e18)
	}
	if told[0] < 20 || told[1] < 20 {
		t.Errorf("%v of the floats about 2^50 seconds", told)
	}
	d := draws(10)
	for range 20000 {
		checkTimeText(t, d.float())
		checkTimeText(t, math.Ldexp(float64(int64(d.next())), -d.below(120)))
	}
}

// wantTime holds ParseTime to the bit.
func wantTime(t *testing.T, s string, want float64, wantErrno api.Errno) {
	t.Helper()
	if x, errno := number.ParseTime(s); !same(x, want) || errno != wantErrno {
		t.Errorf("ParseTime(%s): %v, %d, want %v, %d", short(s), x, errno, want, wantErrno)
	}
}

// checkParseTime holds ParseTime against the model.
func checkParseTime(t *testing.T, s string) {
	t.Helper()
	want, wantErrno := modelParseTime(s)
	wantTime(t, s, want, wantErrno)
}

// P8.5: hours of two digits and of more, up to 13, with a - and without.
func TestParseTime(t *testing.T) {
	for s, want := range map[string]float64{
		"PT00H00M00S": 0, "PT36H00M00S": 1.5, "PT12H00M00S": 0.5, "PT00H00M01S": 1.0 / 86400, "PT00H01M00S": 60.0 / 86400, "PT01H00M00S": 1.0 / 24, "PT09H59M59S": 35999.0 / 86400, "PT10H00M00S": 36000.0 / 86400, "PT23H59M59S": 86399.0 / 86400, "PT24H00M00S": 1, "PT99H00M00S": 99.0 / 24, "PT100H00M00S": 100.0 / 24, "PT99H59M59S": 359999.0 / 86400, "PT876624H00M00S": 36526, "PT312749974122H57M04S": (1 << 50) / 86400.0,
		"PT1000000000000H00M00S": 3600000000000000.0 / 86400, "PT2501999792983H36M32S": (1 << 53) / 86400.0, "PT2501999792983H36M33S": (1 << 53) / 86400.0, "PT2501999792983H36M34S": (1<<53 + 2) / 86400.0, "PT2501999792983H36M35S": (1<<53 + 4) / 86400.0, "PT9999999999999H59M59S": 3.6e16 / 86400, "PT2400000000000H00M00S": 1e11,
	} {
		wantTime(t, s, want, api.OK)
		checkParseTime(t, s)
		if want != 0 {
			wantTime(t, "-"+s, -want, api.OK)
			checkParseTime(t, "-"+s)
		}
	}
}

// P8.5: each part that may not be, and each length one less and one more.
func TestParseTimeRefuses(t *testing.T) {
	for _, s := range []string{
		"", "-", "-PT00H00M00S", "--PT01H00M00S", "+PT01H00M00S", "PT-01H00M00S", "PT+1H00M00S", "PT00H-1M00S", "PT00H00M-1S", "-", "P", "PT", "PTH", "PTHMS", "PT00H", "PT00H00M", "PT00H00M00", "00H00M00S", "T00H00M00S", "P00H00M00S", "-T01H00M00S", "PT00H00S", "PT00M00S", "PT00S", "PT00H00M00S ", " PT00H00M00S",
		"PT0H00M00S", "PT1H00M00S", "PTH00M00S", "PT000H00M00S", "PT012H00M00S", "PT0000000000012H00M00S", "PT099H00M00S", "-PT012H00M00S", "PT00H0M00S", "PT00H000M00S", "PT00H00M0S", "PT00H00M000S", "PT00H060M00S", "PT00H60M00S", "PT00H00M60S", "PT00H99M00S", "PT00H00M99S", "PT01H60M60S", "PT00HM00S", "PT00H00MS",
		"PT10000000000000H00M00S", "PT99999999999999H59M59S", "-PT10000000000000H00M00S", "PT00000000000000H00M00S", "PT" + strings.Repeat("9", 19) + "H00M00S", "PT" + strings.Repeat("9", 1<<16) + "H00M00S", "PT9223372036854775808H00M00S", "PT18446744073709551616H00M00S",
		"pt00H00M00S", "Pt00H00M00S", "PT00h00M00S", "PT00H00m00S", "PT00H00M00s", "PT00H00M00.5S", "PT00H00M00,5S", "PT00H00M00S0", "PT00H00M00SS", "PT00HH00M00S", "PT00H00MM00S", "PTT00H00M00S", "PPT00H00M00S", "PT00H00M00S\x00", "PT00H00M00S\n", "P0DT00H00M00S", "P1DT01H00M00S", "PT 1H00M00S", "PT1 H00M00S", "PT01H 0M00S",
		"PT0aH00M00S", "PTa0H00M00S", "PT0/H00M00S", "PT0:H00M00S", "PT00H0xM00S", "PT00H00M0xS", "PT٠٠H00M00S", "PT٠H00M00S", "PT０H00M00S", "PT1\xffH00M00S", "PT\xff\xffH00M00S", "PT00H\xff0M00S", "PT1e3H00M00S", "PT1.5H00M00S", "PT00M00H00S", "PT00:00:00", "12:00:00", "2000-01-01", "2000-01-01T12:00:00", "0.5",
	} {
		wantTime(t, s, 0, api.ErrDate)
	}
}

// P8.5: hours of each number of digits, and all minutes and seconds of two.
func TestParseTimeAllParts(t *testing.T) {
	for n := range 20 {
		for _, digit := range []string{"0", "1", "9"} {
			for _, sign := range []string{"", "-"} {
				checkParseTime(t, sign+"PT"+strings.Repeat(digit, n)+"H00M00S")
				checkParseTime(t, sign+"PT"+strings.Repeat(digit, n)+"H59M59S")
				checkParseTime(t, sign+"PT1"+strings.Repeat(digit, n)+"H01M01S")
				checkParseTime(t, sign+"PT0"+strings.Repeat(digit, n)+"H01M01S")
			}
		}
	}
	for m := range 100 {
		for s := range 100 {
			checkParseTime(t, "PT00H"+filled(m, 2)+"M"+filled(s, 2)+"S")
			checkParseTime(t, "-PT123H"+filled(m, 2)+"M"+filled(s, 2)+"S")
		}
	}
	d := draws(11)
	for range 20000 {
		checkParseTime(t, strings.Repeat("-", d.below(2))+"PT"+d.digits(1+d.below(14))+"H"+d.digits(2)+"M"+d.digits(2)+"S")
	}
}

// P8.5, R1: texts spoiled at each place, and all short ones.
func TestParseTimeSpoiled(t *testing.T) {
	for _, s := range []string{"PT00H00M00S", "-PT00H00M01S", "PT123H45M56S", "-PT9999999999999H59M59S"} {
		spoiled(s, func(s string) { checkParseTime(t, s) })
	}
	texts(single("-PTHMS05"), 5, func(s string) {
		wantTime(t, s, 0, api.ErrDate)
		checkParseTime(t, "PT1"+s+"00M00S")
		checkParseTime(t, "PT01H0"+s)
	})
}

// P8.8: days with whole seconds, drawn, of which the text says the same day to less than half a second; DateText is held against the model.
func TestDatesThereAndBack(t *testing.T) {
	d := draws(12)
	for i := range 60000 {
		day, s := first+d.below(last-first+1), d.below(86400)
		if i%4 == 0 {
			s = 0
		}
		x := float64(day) + float64(s)/86400
		text, errno := number.DateText(x)
		if want, wantErrno := modelDateText(x); text != want || errno != wantErrno {
			t.Errorf("DateText(%v): %q, %d, want %q, %d", x, text, errno, want, wantErrno)
		}
		if len(text) != len("2000-01-01") && s == 0 || len(text) != len("2000-01-01T00:00:00") && s > 0 {
			t.Errorf("DateText of day %d, second %d: %q", day, s, text)
		}
		back, errno := number.ParseDate(text)
		if math.Abs(back-x)*86400 >= 0.5 || errno != api.OK {
			t.Errorf("ParseDate(%q): %v, %d, want %v", text, back, errno, x)
		}
		if again, _ := number.DateText(back); again != text {
			t.Errorf("DateText(%v): %q, and behind ParseDate %q", x, text, again)
		}
	}
	for range 20000 {
		x := float64(first-2+d.below(last-first+5)) + float64(d.next()>>11)/(1<<53)
		text, errno := number.DateText(x)
		if want, wantErrno := modelDateText(x); text != want || errno != wantErrno {
			t.Errorf("DateText(%v): %q, %d, want %q, %d", x, text, errno, want, wantErrno)
		}
	}
}

// P8.8: times of whole seconds, from few to 2^50 of them, of which the text says the same to less than half a second.
func TestTimesThereAndBack(t *testing.T) {
	d := draws(13)
	for range 60000 {
		s := int64(d.next() >> (14 + d.below(50)))
		for _, x := range []float64{float64(s) / 86400, -float64(s) / 86400, float64(first+d.below(last-first)) + float64(s%86400)/86400} {
			text, errno := number.TimeText(x)
			if want, wantErrno := modelTimeText(x); text != want || errno != wantErrno || errno != api.OK {
				t.Errorf("TimeText(%v): %q, %d, want %q, %d", x, text, errno, want, wantErrno)
			}
			back, errno := number.ParseTime(text)
			if math.Abs(back-x)*86400 >= 0.5 || errno != api.OK {
				t.Errorf("ParseTime(%q): %v, %d, want %v", text, back, errno, x)
			}
		}
	}
}

// R4: calls at the same time know nothing of each other.
func TestAtTheSameTime(t *testing.T) {
	var all sync.WaitGroup
	for seed := range 8 {
		all.Go(func() {
			d := draws(100 + seed)
			for range 500 {
				x := d.float()
				checkText(t, x)
				checkFixed(t, x, d.below(31))
				checkClock(t, x)
				checkTimeText(t, x)
				checkParse(t, d.digits(30)+"."+d.digits(30))
				checkParseDate(t, "20"+d.digits(2)+"-0"+d.digits(1)+"-1"+d.digits(1))
				checkParseTime(t, "PT"+d.digits(3)+"H1"+d.digits(1)+"M2"+d.digits(1)+"S")
			}
		})
	}
	all.Wait()
}
