package numfmt_test

import (
	"math"
	"testing"
	"time"

	"gridiron/numfmt"
)

// P10.5: each month and each weekday, whole and short, as the library's own calendar has them.
func TestNames(t *testing.T) {
	for n := 1; n <= 12; n++ {
		want := time.Month(n).String()
		if got := numfmt.Month(n, true); got != want {
			t.Errorf("Month(%d, true): %q", n, got)
		}
		if got := numfmt.Month(n, false); got != want[:3] {
			t.Errorf("Month(%d, false): %q", n, got)
		}
	}
	for n := 1; n <= 7; n++ {
		want := time.Weekday(n - 1).String()
		if got := numfmt.Weekday(n, true); got != want {
			t.Errorf("Weekday(%d, true): %q", n, got)
		}
		if got := numfmt.Weekday(n, false); got != want[:3] {
			t.Errorf("Weekday(%d, false): %q", n, got)
		}
	}
	if numfmt.Month(1, true) != "January" || numfmt.Month(12, false) != "Dec" || numfmt.Month(5, true) != "May" || numfmt.Weekday(1, true) != "Sunday" || numfmt.Weekday(7, false) != "Sat" {
		t.Error("the library's names are others")
	}
}

// P10.5, R1: other numbers have no name.
func TestNoNames(t *testing.T) {
	for _, n := range []int{0, -1, -7, -12, 13, 14, 24, 256 + 1, 1<<32 + 1, math.MinInt, math.MinInt + 1, math.MaxInt} {
		for _, long := range []bool{false, true} {
			if s := numfmt.Month(n, long); s != "" {
				t.Errorf("Month(%d, %v): %q", n, long, s)
			}
			if s := numfmt.Weekday(n, long); s != "" {
				t.Errorf("Weekday(%d, %v): %q", n, long, s)
			}
		}
	}
	for n := 8; n <= 12; n++ {
		if s := numfmt.Weekday(n, true) + numfmt.Weekday(n, false); s != "" {
			t.Errorf("Weekday(%d): %q", n, s)
		}
	}
}
