package number_test

import (
	"math"
	"strconv"
	"strings"
	"testing"

	"gridiron/api"
	"gridiron/number"
)

const least = math.SmallestNonzeroFloat64

// P8.1: the chapter's examples, the edges of all floats, and of plain digits and powers.
func TestTextAndDigits(t *testing.T) {
	for _, c := range []struct {
		x      float64
		text   string
		digits string
		e      int
	}{
		{0, "0", "0", 1}, {math.Copysign(0, -1), "0", "0", 1}, {0.1, "0.1", "1", 0}, {1, "1", "1", 1}, {-1, "-1", "1", 1}, {10, "10", "1", 2}, {1500, "1500", "15", 4}, {123456, "123456", "123456", 6}, {-1.5, "-1.5", "15", 1}, {0.5, "0.5", "5", 0}, {-0.25, "-0.25", "25", 0}, {100.001, "100.001", "100001", 3}, {9.9, "9.9", "99", 1}, {1e5 + 0.5, "100000.5", "1000005", 6},
		// the least and the greatest
		{least, "5E-324", "5", -323}, {-least, "-5E-324", "5", -323}, {math.MaxFloat64, "1.7976931348623157E308", "17976931348623157", 309}, {-math.MaxFloat64, "-1.7976931348623157E308", "17976931348623157", 309},
		// subnormal ones
		{2 * least, "1E-323", "1", -322}, {3 * least, "1.5E-323", "15", -322}, {0x1p-1022, "2.2250738585072014E-308", "22250738585072014", -307}, {0x1p-1022 - least, "2.225073858507201E-308", "2225073858507201", -307}, {-0x1p-1023, "-1.1125369292536007E-308", "11125369292536007", -307}, {1e-310, "1E-310", "1", -309},
		// 15, 16 and 17 digits
		{0.123456789012345, "0.123456789012345", "123456789012345", 0}, {123456789012345, "123456789012345", "123456789012345", 15}, {0.1234567890123456, "0.1234567890123456", "1234567890123456", 0}, {1234567890123456, "1234567890123456", "1234567890123456", 16}, {0.12345678901234568, "0.12345678901234568", "12345678901234568", 0}, {math.Nextafter(0.3, 1), "0.30000000000000004", "30000000000000004", 0}, {12345678901234567000, "12345678901234567000", "12345678901234567", 20}, {9007199254740993, "9007199254740992", "9007199254740992", 16}, {-1.7976931348623157, "-1.7976931348623157", "17976931348623157", 1}, {12345.678901234567, "12345.678901234567", "12345678901234567", 5},
		// e at 21 and beside it
		{1e19, "10000000000000000000", "1", 20}, {1e20, "100000000000000000000", "1", 21}, {1e21, "1E21", "1", 22}, {1e22, "1E22", "1", 23}, {-1e20, "-100000000000000000000", "1", 21}, {-1e21, "-1E21", "1", 22}, {1.5e20, "150000000000000000000", "15", 21}, {1.5e21, "1.5E21", "15", 22}, {123456789012345680000, "123456789012345680000", "12345678901234568", 21}, {1234567890123456800000, "1.2345678901234568E21", "12345678901234568", 22}, {math.Nextafter(1e21, 0), "999999999999999900000", "9999999999999999", 21}, {math.Nextafter(1e21, 2e21), "1.0000000000000001E21", "10000000000000001", 22},
		// e at -5 and beside it
		{1e-5, "0.00001", "1", -4}, {1e-6, "0.000001", "1", -5}, {1e-7, "1E-7", "1", -6}, {1e-8, "1E-8", "1", -7}, {-1e-6, "-0.000001", "1", -5}, {-1e-7, "-1E-7", "1", -6}, {1.25e-6, "0.00000125", "125", -5}, {9.5e-7, "9.5E-7", "95", -6}, {0.0000012345678901234567, "0.0000012345678901234567", "12345678901234567", -5}, {math.Nextafter(1e-6, 0), "9.999999999999997E-7", "9999999999999997", -6}, {math.Nextafter(1e-6, 1), "0.0000010000000000000002", "10000000000000002", -5},
	} {
		text, errno := number.Text(c.x)
		if text != c.text || errno != api.OK {
			t.Errorf("Text(%v): %q, %d, want %q", c.x, text, errno, c.text)
		}
		digits, e, errno := number.Digits(c.x)
		if digits != c.digits || e != c.e || errno != api.OK {
			t.Errorf("Digits(%v): %q, %d, %d, want %q, %d", c.x, digits, e, errno, c.digits, c.e)
		}
	}
}

// checkText holds Text and Digits of a finite number against the model, and Parse against the number (P8.1, P8.6).
func checkText(t *testing.T, x float64) {
	t.Helper()
	text, errno := number.Text(x)
	if want := modelText(x); text != want || errno != api.OK {
		t.Errorf("Text(%v): %q, %d, want %q", x, text, errno, want)
	}
	back, errno := number.Parse(text)
	if !same(back, x+0) || errno != api.OK {
		t.Errorf("Parse(%q) of Text(%v): %v, %d", text, x, back, errno)
	}
	digits, e, errno := number.Digits(x)
	if strings.Trim(digits, "0123456789") != "" || len(digits) < 1 || len(digits) > 17 || errno != api.OK {
		t.Errorf("Digits(%v): %q, %d, %d", x, digits, e, errno)
	}
	if x != 0 && (digits[0] == '0' || digits[len(digits)-1] == '0') {
		t.Errorf("Digits(%v): %q has noughts at an end", x, digits)
	}
	back, errno = number.Parse("0." + digits + "E" + strconv.Itoa(e))
	if !same(back, math.Abs(x)) || errno != api.OK {
		t.Errorf("Digits(%v): %q, %d say %v", x, digits, e, back)
	}
	other, otherE, _ := number.Digits(-x)
	if digits != other || e != otherE {
		t.Errorf("Digits(%v): %q, %d, and of its negative %q, %d", x, digits, e, other, otherE)
	}
}

// checkAround looks at a number, its neighbours and their negatives.
func checkAround(t *testing.T, x float64) {
	t.Helper()
	for _, y := range []float64{x, math.Nextafter(x, 0), math.Nextafter(x, 2*x), -x} {
		if !math.IsInf(y, 0) {
			checkText(t, y)
		}
	}
}

// P8.1, P8.6: all powers of two and of ten, and their neighbours.
func TestTextOfPowers(t *testing.T) {
	for e := -1074; e <= 1023; e++ {
		checkAround(t, math.Ldexp(1, e))
	}
	for e := -323; e <= 308; e++ {
		for _, digits := range []string{"1", "9", "123456789012345", "999999999999999", "1234567890123456", "9999999999999999", "12345678901234567"} {
			x, err := strconv.ParseFloat(digits+"E"+strconv.Itoa(e), 64)
			if err == nil {
				checkAround(t, x)
			}
		}
	}
}

// P8.1: a whole number that a float has, up to 2^53, is told by all of its digits.
func TestTextOfWholeNumbers(t *testing.T) {
	d := draws(1)
	for i := range 60000 {
		n := int64(i)
		if i >= 30000 {
			n = int64(d.next() >> (11 + d.below(50)))
		}
		if text, errno := number.Text(float64(-n)); text != strconv.FormatInt(-n, 10) || errno != api.OK {
			t.Errorf("Text(%d): %q, %d", -n, text, errno)
		}
		checkText(t, float64(n))
	}
}

// P8.1, P8.6: drawn floats of all exponents, held to the bit.
func TestTextOfDrawn(t *testing.T) {
	d := draws(2)
	for range 200000 {
		checkText(t, d.float())
	}
	// each exponent, and each number of digits, as often as any other
	for e := range 2047 {
		for range 30 {
			checkText(t, math.Float64frombits(uint64(e)<<52|d.next()>>12|uint64(d.below(2))<<63))
		}
	}
	for range 60000 {
		n := 1 + d.below(17)
		x, err := strconv.ParseFloat("0."+d.digits(n)+"E"+strconv.Itoa(d.below(40)-15), 64)
		if err == nil {
			checkText(t, x)
		}
	}
}

// Every call that takes an x refuses a NaN and the infinities, with nothing beside the error; R2: Fixed looks at its x ahead of its places.
func TestNoNumbers(t *testing.T) {
	for _, x := range []float64{math.NaN(), math.Float64frombits(0x7FF0000000000001), math.Float64frombits(0xFFFFFFFFFFFFFFFF), math.Inf(1), math.Inf(-1)} {
		if text, errno := number.Text(x); text != "" || errno != api.ErrNumber {
			t.Errorf("Text(%v): %q, %d", x, text, errno)
		}
		if digits, e, errno := number.Digits(x); digits != "" || e != 0 || errno != api.ErrNumber {
			t.Errorf("Digits(%v): %q, %d, %d", x, digits, e, errno)
		}
		for _, places := range []int{0, 2, 30, 31, -1, math.MaxInt, math.MinInt} {
			if text, errno := number.Fixed(x, places); text != "" || errno != api.ErrNumber {
				t.Errorf("Fixed(%v, %d): %q, %d", x, places, text, errno)
			}
		}
		if y, m, d, errno := number.ToDate(x); y != 0 || m != 0 || d != 0 || errno != api.ErrNumber {
			t.Errorf("ToDate(%v): %d, %d, %d, %d", x, y, m, d, errno)
		}
		if got := clockOf(x); got != (clock{errno: api.ErrNumber}) {
			t.Errorf("Clock(%v): %v", x, got)
		}
		if w, errno := number.Weekday(x); w != 0 || errno != api.ErrNumber {
			t.Errorf("Weekday(%v): %d, %d", x, w, errno)
		}
		if text, errno := number.DateText(x); text != "" || errno != api.ErrNumber {
			t.Errorf("DateText(%v): %q, %d", x, text, errno)
		}
		if text, errno := number.TimeText(x); text != "" || errno != api.ErrNumber {
			t.Errorf("TimeText(%v): %q, %d", x, text, errno)
		}
	}
}

// Every call that takes an x takes -0 as 0.
func TestNegativeZero(t *testing.T) {
	x := math.Copysign(0, -1)
	if text, errno := number.Text(x); text != "0" || errno != api.OK {
		t.Errorf("Text: %q, %d", text, errno)
	}
	if digits, e, errno := number.Digits(x); digits != "0" || e != 1 || errno != api.OK {
		t.Errorf("Digits: %q, %d, %d", digits, e, errno)
	}
	for places, want := range []string{"0", "0.0", "0.00"} {
		if text, errno := number.Fixed(x, places); text != want || errno != api.OK {
			t.Errorf("Fixed with %d places: %q, %d", places, text, errno)
		}
	}
	if y, m, d, errno := number.ToDate(x); y != 1899 || m != 12 || d != 30 || errno != api.OK {
		t.Errorf("ToDate: %d, %d, %d, %d", y, m, d, errno)
	}
	if got := clockOf(x); got != (clock{}) {
		t.Errorf("Clock: %v", got)
	}
	if w, errno := number.Weekday(x); w != 7 || errno != api.OK {
		t.Errorf("Weekday: %d, %d", w, errno)
	}
	if text, errno := number.DateText(x); text != "1899-12-30" || errno != api.OK {
		t.Errorf("DateText: %q, %d", text, errno)
	}
	if text, errno := number.TimeText(x); text != "PT00H00M00S" || errno != api.OK {
		t.Errorf("TimeText: %q, %d", text, errno)
	}
}
