package numfmt_test

import (
	"math"
	"strings"
	"testing"

	"gridiron/api"
	"gridiron/number"
	"gridiron/numfmt"
)

func wantNumber(t *testing.T, x float64, least, places int, group bool, want string) {
	t.Helper()
	if got, errno := numfmt.Number(x, least, places, group); got != want || errno != api.OK {
		t.Errorf("Number(%v, %d, %d, %v): %q, %d, want %q", x, least, places, group, got, errno, want)
	}
}

func checkNumber(t *testing.T, x float64, least, places int, group bool) {
	t.Helper()
	wantNumber(t, x, least, places, group, modelNumber(x, least, places, group))
}

func noNumber(t *testing.T, x float64, least, places int, group bool, want api.Errno) {
	t.Helper()
	if got, errno := numfmt.Number(x, least, places, group); got != "" || errno != want {
		t.Errorf("Number(%v, %d, %d, %v): %q, %d, want %d", x, least, places, group, got, errno, want)
	}
}

// P10.2: the chapter's examples, and each part by itself.
func TestNumber(t *testing.T) {
	for _, c := range []struct {
		x             float64
		least, places int
		group         bool
		want          string
	}{
		{1234.5, 1, 2, true, "1,234.50"}, {0.5, 0, 1, false, ".5"}, {-0.04, 1, 1, false, "0.0"}, {7, 3, 0, false, "007"},
		// a 0 that stands alone
		{0, 0, 0, false, "0"}, {0, 0, 2, false, ".00"}, {0, 1, 2, false, "0.00"}, {0, 1, 0, true, "0"}, {0.4, 0, 0, false, "0"}, {-0.5, 0, 1, false, "-.5"}, {0.96, 0, 1, false, "1.0"}, {10, 0, 1, false, "10.0"}, {0.5, 2, 1, false, "00.5"}, {-0.04, 0, 1, false, ".0"}, {-0.05, 0, 1, false, "-.1"}, {below0, 0, 1, true, ".0"}, {below0, 1, 0, false, "0"},
		// noughts ahead
		{7, 0, 0, false, "7"}, {7, 1, 0, false, "7"}, {7, 2, 0, false, "07"}, {77, 2, 0, false, "77"}, {777, 2, 0, false, "777"}, {-7, 3, 0, false, "-007"}, {-7.25, 3, 1, false, "-007.3"}, {7, 20, 0, false, "00000000000000000007"},
		// commas
		{1, 1, 0, true, "1"}, {12, 1, 0, true, "12"}, {123, 1, 0, true, "123"}, {1234, 1, 0, true, "1,234"}, {12345, 1, 0, true, "12,345"}, {123456, 1, 0, true, "123,456"}, {1234567, 1, 0, true, "1,234,567"}, {-123, 1, 0, true, "-123"}, {-1234, 1, 0, true, "-1,234"}, {-1234567, 1, 3, true, "-1,234,567.000"}, {1234.56789, 1, 5, true, "1,234.56789"}, {0.123456, 1, 6, true, "0.123456"}, {0.123456, 0, 6, true, ".123456"},
		{7, 3, 0, true, "007"}, {7, 4, 0, true, "0,007"}, {7, 6, 0, true, "000,007"}, {7, 7, 0, true, "0,000,007"}, {7, 20, 1, true, "00,000,000,000,000,000,007.0"}, {-1234, 6, 0, true, "-001,234"}, {0, 4, 2, true, "0,000.00"},
		// what a rounding makes one digit longer
		{9.5, 1, 0, false, "10"}, {99.95, 1, 1, false, "100.0"}, {999.5, 1, 0, true, "1,000"}, {-999.5, 1, 0, true, "-1,000"}, {999999.5, 1, 0, true, "1,000,000"}, {9.995, 1, 2, false, "9.99"}, {9.9951, 1, 2, false, "10.00"}, {0.5, 1, 0, false, "1"}, {0.95, 0, 1, false, ".9"}, {0.94, 0, 1, false, ".9"}, {-0.5, 0, 0, false, "-1"},
		// halves to either side, exact ones and others
		{2.5, 1, 0, false, "3"}, {3.5, 1, 0, false, "4"}, {-2.5, 1, 0, false, "-3"}, {0.125, 1, 2, false, "0.13"}, {0.375, 1, 2, false, "0.38"}, {-0.125, 1, 2, false, "-0.13"}, {1.005, 1, 2, false, "1.00"}, {2.675, 1, 2, false, "2.67"}, {math.Nextafter(2.5, 0), 1, 0, false, "2"}, {math.Nextafter(2.5, 3), 1, 0, false, "3"},
		// what becomes 0
		{-0.4, 1, 0, false, "0"}, {-0.4, 2, 0, true, "00"}, {-0.004, 0, 2, false, ".00"}, {tiny, 1, 15, false, "0.000000000000000"}, {-tiny, 0, 15, false, ".000000000000000"}, {4.9e-16, 1, 15, false, "0.000000000000000"}, {5.1e-16, 1, 15, false, "0.000000000000001"}, {-5.1e-16, 0, 15, true, "-.000000000000001"},
		{1e21, 1, 0, true, "1,000,000,000,000,000,000,000"}, {1e22, 20, 1, false, "10000000000000000000000.0"}, {0.1, 1, 15, false, "0.100000000000000"},
	} {
		wantNumber(t, c.x, c.least, c.places, c.group, c.want)
		checkNumber(t, c.x, c.least, c.places, c.group)
	}
}

// The numbers that the promises of Number and Sci name.
var amounts = []float64{
	0, below0, 1, -1, 5, -5, 9, 10, 99, 100, 999, 1000, 9999, 12345, 123456, 1234567, -7654321, 0.1, -0.1, 0.5, -0.5, 1.5, 2.5, -2.5, 0.05, 0.04, -0.04, 9.5, 9.995, 9.9951, 99.5, 99.95, 999.5, -999.5, 0.0995, 0.99999, 0.9999999999999999, 1e15, 1e16, 1e21, -1e21, 1e22, 1e23, 9.999999999999999e22, 1e-6, 1e-7, -1e-7, 1e-15, 5e-16, 1e100, 1e-100, 1 << 53, 1<<53 + 2, 1.0 / 3, 2.0 / 3, tiny, -tiny, 2 * tiny, 2.2250738585072014e-308, 2.225073858507201e-308, math.MaxFloat64, -math.MaxFloat64, math.Nextafter(math.MaxFloat64, 0), 0.125, 0.375, 125, 1250, 12500000, 999999999999999900000, 99999999999999990000,
}

// P10.2: all arguments that may be, of all numbers that are named.
func TestNumberAll(t *testing.T) {
	for _, x := range amounts {
		for least := 0; least <= 20; least++ {
			for places := 0; places <= 15; places++ {
				checkNumber(t, x, least, places, false)
				checkNumber(t, x, least, places, true)
			}
		}
	}
}

// P10.2, R2: arguments at their edges and beyond, numbers that are none; the arguments are told ahead of the number.
func TestNumberWrong(t *testing.T) {
	strange := []float64{math.NaN(), math.Float64frombits(0xFFF8000000000001), most, least}
	for _, group := range []bool{false, true} {
		for _, x := range strange {
			noNumber(t, x, 0, 0, group, api.ErrNumber)
			noNumber(t, x, 20, 15, group, api.ErrNumber)
			noNumber(t, x, 21, 0, group, api.ErrArg)
			noNumber(t, x, 0, 16, group, api.ErrArg)
			noNumber(t, x, -1, -1, group, api.ErrArg)
		}
		for _, n := range []int{math.MinInt, -20, -1, 21, 22, 256, 1 << 32, math.MaxInt} {
			noNumber(t, 1, n, 0, group, api.ErrArg)
			noNumber(t, 1, n, 15, group, api.ErrArg)
			noNumber(t, 1, n, 16, group, api.ErrArg)
		}
		for _, n := range []int{math.MinInt, -15, -1, 16, 17, 20, 30, 31, 256, 1 << 32, math.MaxInt} {
			noNumber(t, 1, 0, n, group, api.ErrArg)
			noNumber(t, 1, 20, n, group, api.ErrArg)
		}
		checkNumber(t, 1.5, 0, 0, group)
		checkNumber(t, 1.5, 20, 15, group)
	}
}

// P10.2: drawn numbers and arguments.
func TestNumberDrawn(t *testing.T) {
	d := draws(21)
	for range 20000 {
		checkNumber(t, d.float(), d.below(21), d.below(16), d.yes())
	}
}

// P10.6: with one digit ahead and without commas it is number.Fixed.
func TestNumberIsFixed(t *testing.T) {
	d := draws(22)
	check := func(x float64, places int) {
		t.Helper()
		want, _ := number.Fixed(x, places)
		wantNumber(t, x, 1, places, false, want)
	}
	for places := range 16 {
		for _, x := range amounts {
			check(x, places)
		}
		for range 2000 {
			check(d.float(), places)
		}
	}
	for _, x := range []float64{math.NaN(), most, least} {
		_, want := number.Fixed(x, 3)
		noNumber(t, x, 1, 3, false, want)
	}
}

// bare is a number's text without its commas, and without the noughts ahead.
func bare(s string) string {
	s, below := strings.CutPrefix(strings.ReplaceAll(s, ",", ""), "-")
	s = strings.TrimLeft(s, "0")
	if below {
		return "-" + s
	}
	return s
}

// P10.7: without its commas it is what is told without group, and without noughts what is told of any least.
func TestNumberBare(t *testing.T) {
	d := draws(23)
	check := func(x float64, places int) {
		t.Helper()
		least, other := d.below(21), d.below(21)
		with, _ := numfmt.Number(x, least, places, true)
		without, _ := numfmt.Number(x, least, places, false)
		another, _ := numfmt.Number(x, other, places, false)
		if strings.ReplaceAll(with, ",", "") != without || strings.Contains(without, ",") {
			t.Errorf("Number(%v, %d, %d): %q with commas, %q without", x, least, places, with, without)
		}
		if bare(with) != bare(another) {
			t.Errorf("Number(%v, .., %d): %q with at least %d digits, %q with %d", x, places, with, least, another, other)
		}
	}
	for places := range 16 {
		for _, x := range amounts {
			check(x, places)
		}
		for range 2000 {
			check(d.float(), places)
		}
	}
}

func wantSci(t *testing.T, x float64, least, places, exp int, want string) {
	t.Helper()
	if got, errno := numfmt.Sci(x, least, places, exp); got != want || errno != api.OK {
		t.Errorf("Sci(%v, %d, %d, %d): %q, %d, want %q", x, least, places, exp, got, errno, want)
	}
}

func checkSci(t *testing.T, x float64, least, places, exp int) {
	t.Helper()
	wantSci(t, x, least, places, exp, modelSci(x, least, places, exp))
}

func noSci(t *testing.T, x float64, least, places, exp int, want api.Errno) {
	t.Helper()
	if got, errno := numfmt.Sci(x, least, places, exp); got != "" || errno != want {
		t.Errorf("Sci(%v, %d, %d, %d): %q, %d, want %d", x, least, places, exp, got, errno, want)
	}
}

// P10.2: the chapter's example, and each part by itself.
func TestSci(t *testing.T) {
	for _, c := range []struct {
		x                  float64
		least, places, exp int
		want               string
	}{
		{12345, 1, 2, 2, "1.23E+04"}, {-0.000999, 1, 1, 1, "-1.0E-3"},
		// digits ahead and behind
		{12345, 1, 0, 1, "1E+4"}, {12345, 2, 0, 1, "12E+3"}, {12345, 3, 1, 1, "123.5E+2"}, {12345, 5, 0, 1, "12345E+0"}, {12345, 5, 2, 1, "12345.00E+0"}, {12345, 6, 0, 1, "123450E-1"}, {12345, 8, 2, 2, "12345000.00E-03"}, {1, 1, 0, 1, "1E+0"}, {1, 2, 0, 1, "10E-1"}, {-1, 20, 0, 1, "-10000000000000000000E-19"}, {10, 1, 0, 1, "1E+1"}, {0.1, 1, 0, 1, "1E-1"}, {0.1, 1, 15, 1, "1.000000000000000E-1"}, {0.1, 20, 15, 1, "10000000000000000555.111512312578270E-20"}, {-12345, 1, 1, 1, "-1.2E+4"},
		// 0 has no power, and noughts ahead
		{0, 1, 0, 1, "0E+0"}, {0, 1, 2, 2, "0.00E+00"}, {0, 2, 1, 2, "00.0E+00"}, {0, 20, 15, 4, "00000000000000000000.000000000000000E+0000"}, {below0, 1, 0, 1, "0E+0"}, {below0, 3, 1, 1, "000.0E+0"},
		// digits of the power: fewer, as many, more
		{1e5, 1, 0, 1, "1E+5"}, {1e5, 1, 0, 2, "1E+05"}, {1e5, 1, 0, 3, "1E+005"}, {1e5, 1, 0, 4, "1E+0005"}, {1e10, 1, 0, 1, "1E+10"}, {1e10, 1, 0, 2, "1E+10"}, {1e10, 1, 0, 3, "1E+010"}, {1e100, 1, 0, 1, "1E+100"}, {1e100, 1, 0, 3, "1E+100"}, {1e100, 1, 0, 4, "1E+0100"}, {1e-100, 1, 0, 2, "1E-100"}, {1e-5, 1, 0, 2, "1E-05"}, {1e-5, 1, 0, 4, "1E-0005"}, {1e-9, 1, 0, 1, "1E-9"}, {1e-10, 1, 0, 1, "1E-10"},
		// what a rounding makes one digit longer
		{9.995, 1, 2, 1, "9.99E+0"}, {9.9951, 1, 2, 1, "1.00E+1"}, {9.5, 1, 0, 1, "1E+1"}, {9.4, 1, 0, 1, "9E+0"}, {-9.5, 1, 0, 1, "-1E+1"}, {99.5, 2, 0, 1, "10E+1"}, {99.4, 2, 0, 1, "99E+0"}, {999.96, 2, 1, 1, "10.0E+2"}, {0.95, 1, 0, 1, "9E-1"}, {0.96, 1, 0, 1, "1E+0"}, {0.0996, 1, 1, 1, "1.0E-1"}, {999999.5, 3, 3, 1, "100.000E+4"}, {999999.4, 3, 3, 1, "999.999E+3"}, {9.6e99, 1, 0, 1, "1E+100"},
		// halves away from 0, exact ones and others
		{2.5, 1, 0, 1, "3E+0"}, {3.5, 1, 0, 1, "4E+0"}, {-2.5, 1, 0, 1, "-3E+0"}, {0.125, 1, 1, 1, "1.3E-1"}, {0.375, 1, 1, 1, "3.8E-1"}, {12500, 1, 1, 1, "1.3E+4"}, {13500, 1, 1, 1, "1.4E+4"}, {1.005, 1, 2, 1, "1.00E+0"}, {math.Nextafter(2.5, 0), 1, 0, 1, "2E+0"}, {math.Nextafter(2.5, 3), 1, 0, 1, "3E+0"},
		// by the exact value, not by the fewest digits that tell it
		{1e23, 1, 0, 2, "1E+23"}, {1e23, 1, 15, 2, "9.999999999999999E+22"}, {1e23, 1, 14, 2, "1.00000000000000E+23"}, {1e23, 20, 0, 1, "99999999999999991611E+3"}, {0.15, 1, 0, 1, "1E-1"}, {0.25, 1, 0, 1, "3E-1"}, {0.35, 1, 0, 1, "3E-1"}, {0.45, 1, 0, 1, "5E-1"},
		// the least and the greatest floats
		{tiny, 1, 0, 1, "5E-324"}, {tiny, 1, 2, 4, "4.94E-0324"}, {-tiny, 3, 0, 1, "-494E-326"}, {tiny, 20, 15, 1, "49406564584124654417.656879286822137E-343"}, {math.MaxFloat64, 1, 0, 1, "2E+308"}, {math.MaxFloat64, 1, 2, 1, "1.80E+308"}, {-math.MaxFloat64, 4, 0, 1, "-1798E+305"}, {math.MaxFloat64, 20, 15, 4, "17976931348623157081.452742373170436E+0289"},
	} {
		wantSci(t, c.x, c.least, c.places, c.exp, c.want)
		checkSci(t, c.x, c.least, c.places, c.exp)
	}
}

// P10.2: all arguments that may be, of all numbers that are named.
func TestSciAll(t *testing.T) {
	for _, x := range amounts {
		for least := 1; least <= 20; least++ {
			for places := 0; places <= 15; places++ {
				checkSci(t, x, least, places, 1+(least+places)%4)
			}
		}
		for exp := 1; exp <= 4; exp++ {
			checkSci(t, x, 1, 2, exp)
		}
	}
}

// P10.2: powers of ten and their neighbours, and halves of the last digit that is told.
func TestSciPowers(t *testing.T) {
	for e := -324; e <= 308; e += 3 {
		x := math.Pow10(e)
		for _, near := range []float64{x, math.Nextafter(x, 0), math.Nextafter(x, most), x * 9.5, x * 0.95, x * 9.995, x * 1.5, -x * 2.5} {
			checkSci(t, near, 1, 0, 1)
			checkSci(t, near, 1, 2, 2)
			checkSci(t, near, 3, 15, 3)
			checkSci(t, near, 20, 0, 4)
		}
	}
}

// P10.2, R2: arguments at their edges and beyond, numbers that are none; the arguments are told ahead of the number.
func TestSciWrong(t *testing.T) {
	for _, x := range []float64{math.NaN(), math.Float64frombits(0x7FF0000000000001), most, least} {
		noSci(t, x, 1, 0, 1, api.ErrNumber)
		noSci(t, x, 20, 15, 4, api.ErrNumber)
		noSci(t, x, 0, 0, 1, api.ErrArg)
		noSci(t, x, 1, 16, 1, api.ErrArg)
		noSci(t, x, 1, 0, 5, api.ErrArg)
	}
	for _, x := range []float64{0, 1, -2.5} {
		for _, n := range []int{math.MinInt, -1, 0, 21, 22, 256 + 1, 1<<32 + 1, math.MaxInt} {
			noSci(t, x, n, 0, 1, api.ErrArg)
			noSci(t, x, n, 15, 4, api.ErrArg)
		}
		for _, n := range []int{math.MinInt, -1, 16, 17, 256, 1 << 32, math.MaxInt} {
			noSci(t, x, 1, n, 1, api.ErrArg)
			noSci(t, x, 20, n, 4, api.ErrArg)
		}
		for _, n := range []int{math.MinInt, -1, 0, 5, 6, 256 + 1, 1<<32 + 1, math.MaxInt} {
			noSci(t, x, 1, 0, n, api.ErrArg)
			noSci(t, x, 20, 15, n, api.ErrArg)
		}
		checkSci(t, x, 1, 0, 1)
		checkSci(t, x, 20, 15, 4)
	}
}

// P10.2: drawn numbers and arguments.
func TestSciDrawn(t *testing.T) {
	d := draws(24)
	for range 10000 {
		checkSci(t, d.float(), 1+d.below(20), d.below(16), 1+d.below(4))
	}
}
