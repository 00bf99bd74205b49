package number_test

import (
	"math"
	"strconv"
	"strings"
	"testing"

	"gridiron/api"
	"gridiron/number"
)

// P8.3: the chapter's examples, halves to either side, what becomes 0 from below, and what grows by a digit.
func TestFixed(t *testing.T) {
	for _, c := range []struct {
		x      float64
		places int
		want   string
	}{
		{2.5, 0, "3"}, {-0.04, 1, "0.0"}, {0, 0, "0"}, {0, 1, "0.0"}, {0, 30, "0." + noughts(30)}, {1, 0, "1"}, {1, 2, "1.00"}, {-1, 2, "-1.00"}, {1234.5678, 2, "1234.57"}, {-1234.5678, 2, "-1234.57"}, {123456, 0, "123456"},
		{0.5, 0, "1"}, {1.5, 0, "2"}, {3.5, 0, "4"}, {4.5, 0, "5"}, {-0.5, 0, "-1"}, {-1.5, 0, "-2"}, {-2.5, 0, "-3"}, {0.25, 1, "0.3"}, {0.75, 1, "0.8"}, {-0.25, 1, "-0.3"}, {0.125, 2, "0.13"}, {0.375, 2, "0.38"}, {-0.125, 2, "-0.13"}, {0.0625, 3, "0.063"}, {2.25, 1, "2.3"}, {1e15 + 0.5, 0, "1000000000000001"}, {1 << 51, 0, "2251799813685248"}, {1<<51 + 0.5, 0, "2251799813685249"}, {0x1p-30, 29, "0.00000000093132257461547851563"}, {0x1p-30, 30, "0.000000000931322574615478515625"}, {0x1p-31, 30, "0.000000000465661287307739257813"}, {-0x1p-31, 30, "-0.000000000465661287307739257813"},
		// no halves, though their shortest digits look so
		{1.005, 2, "1.00"}, {1.015, 2, "1.01"}, {1.115, 2, "1.11"}, {2.675, 2, "2.67"}, {0.15, 1, "0.1"}, {0.35, 1, "0.3"}, {0.45, 1, "0.5"}, {-1.005, 2, "-1.00"}, {-0.45, 1, "-0.5"}, {8.345, 2, "8.35"},
		// beside halves
		{math.Nextafter(0.5, 0), 0, "0"}, {math.Nextafter(0.5, 1), 0, "1"}, {math.Nextafter(2.5, 0), 0, "2"}, {math.Nextafter(2.5, 3), 0, "3"}, {math.Nextafter(-0.5, 0), 0, "0"}, {math.Nextafter(-0.5, -1), 0, "-1"}, {math.Nextafter(0.25, 0), 1, "0.2"}, {math.Nextafter(-0.125, 0), 2, "-0.12"},
		// 0 from below
		{-0.4, 0, "0"}, {-0.049, 1, "0.0"}, {-0.05, 1, "-0.1"}, {-0.0049, 2, "0.00"}, {-1e-31, 30, "0." + noughts(30)}, {-1e-30, 30, "-0." + noughts(29) + "1"}, {-6e-31, 30, "-0." + noughts(29) + "1"}, {-least, 0, "0"}, {-least, 30, "0." + noughts(30)}, {-0.9, 0, "-1"}, {-10.04, 1, "-10.0"}, {-100, 0, "-100"},
		// one digit more
		{9.5, 0, "10"}, {99.5, 0, "100"}, {0.95, 0, "1"}, {9.96, 1, "10.0"}, {99.999, 2, "100.00"}, {-9.996, 2, "-10.00"}, {999999.5, 0, "1000000"}, {0.9999, 3, "1.000"}, {1.9999, 3, "2.000"}, {19.99, 1, "20.0"}, {1099.96, 1, "1100.0"}, {8.99, 1, "9.0"},
		// the exact value of what has few digits
		{0.1, 30, "0.100000000000000005551115123126"}, {-0.1, 20, "-0.10000000000000000555"}, {1e23, 0, "99999999999999991611392"}, {1e22, 1, "10000000000000000000000.0"}, {0.3, 17, "0.29999999999999999"}, {1e-30, 30, "0." + noughts(29) + "1"}, {4.9e-31, 30, "0." + noughts(30)}, {5.1e-31, 30, "0." + noughts(29) + "1"},
		{least, 0, "0"}, {least, 30, "0." + noughts(30)}, {0x1p-1022, 30, "0." + noughts(30)},
	} {
		if text, errno := number.Fixed(c.x, c.places); text != c.want || errno != api.OK {
			t.Errorf("Fixed(%v, %d): %q, %d, want %q", c.x, c.places, text, errno, c.want)
		}
	}
}

// P8.3: the greatest floats have all of their digits.
func TestFixedOfTheGreatest(t *testing.T) {
	digits, _ := exact(2*(1<<53-1), 971)
	for places, behind := range map[int]string{0: "", 1: ".0", 30: "." + noughts(30)} {
		if text, errno := number.Fixed(math.MaxFloat64, places); text != digits+behind || errno != api.OK {
			t.Errorf("Fixed of the greatest with %d places: %s, %d", places, short(text), errno)
		}
		if text, errno := number.Fixed(-math.MaxFloat64, places); text != "-"+digits+behind || errno != api.OK {
			t.Errorf("Fixed of the least of all with %d places: %s, %d", places, short(text), errno)
		}
	}
}

// P8.3: 0 to 30 places, no others.
func TestFixedPlaces(t *testing.T) {
	for _, x := range []float64{0, 1.5, -1.5, math.MaxFloat64, least} {
		for _, places := range []int{-1, -2, 31, 32, 400, 1074, 1075, math.MaxInt, math.MinInt} {
			if text, errno := number.Fixed(x, places); text != "" || errno != api.ErrArg {
				t.Errorf("Fixed(%v, %d): %q, %d", x, places, text, errno)
			}
		}
		for places := range 31 {
			checkFixed(t, x, places)
		}
	}
}

// checkFixed holds Fixed of a finite number against the model, and its form against the chapter's words.
func checkFixed(t *testing.T, x float64, places int) {
	t.Helper()
	text, errno := number.Fixed(x, places)
	if want := modelFixed(x, places); text != want || errno != api.OK {
		t.Errorf("Fixed(%v, %d): %s, %d, want %s", x, places, short(text), errno, short(want))
	}
	_, part, pointed := strings.Cut(text, ".")
	if len(part) != places || pointed != (places > 0) {
		t.Errorf("Fixed(%v, %d): %s", x, places, short(text))
	}
}

// P8.3: halves of all places, drawn numbers of all exponents and of few digits, held against fractions.
func TestFixedDrawn(t *testing.T) {
	d := draws(6)
	for range 4000 {
		checkFixed(t, d.float(), d.below(31))
	}
	for e := -120; e <= 70; e++ {
		for range 60 {
			x := math.Ldexp(1+float64(d.next()>>11)/(1<<53), e)
			checkFixed(t, x, d.below(31))
			checkFixed(t, -x, d.below(31))
		}
	}
	for range 20000 {
		// a whole number of 2^-n has n places, and at n - 1 places is often a half
		n := 1 + d.below(31)
		x := math.Ldexp(float64(d.next()>>(20+d.below(43))), -n)
		checkFixed(t, x, n-1)
		checkFixed(t, -x, max(0, n-2))
	}
	for range 20000 {
		x, _ := strconv.ParseFloat(d.digits(1+d.below(6))+"."+d.digits(1+d.below(6))+"5", 64)
		checkFixed(t, x, d.below(8))
		checkFixed(t, -x, d.below(8))
	}
}

// P8.3: whole numbers are told as they are.
func TestFixedOfWholeNumbers(t *testing.T) {
	for n := -3000; n <= 3000; n++ {
		want := strconv.Itoa(n)
		if text, _ := number.Fixed(float64(n), 0); text != want {
			t.Errorf("Fixed(%d, 0): %q", n, text)
		}
		if text, _ := number.Fixed(float64(n), 3); text != want+".000" {
			t.Errorf("Fixed(%d, 3): %q", n, text)
		}
	}
}
