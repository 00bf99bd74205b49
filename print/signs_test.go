package print_test

import (
	"math"
	"testing"

	"gridiron/api"
	"gridiron/print"
)

// P14.1: the sign and the level of each operation.
func TestSigns(t *testing.T) {
	for _, s := range everySign() {
		if got := print.Sign(s.op); got != s.text {
			t.Errorf("Sign(%d): %q, want %q", s.op, got, s.text)
		}
		if got := print.Level(s.op); got != s.level {
			t.Errorf("Level(%d): %d, want %d", s.op, got, s.level)
		}
	}
	for _, o := range []int{api.NNum, api.NText, api.NErr, api.NRef, api.NName, api.NCall, api.NArray, api.NMiss} {
		if sign, level := print.Sign(o), print.Level(o); sign != "" || level != 10 {
			t.Errorf("Sign(%d), Level(%d): %q, %d", o, o, sign, level)
		}
	}
}

// P14.1: of what is no operation.
func TestSignsOfNone(t *testing.T) {
	for _, o := range []int{0, -1, api.NCommon + 1, -api.NAdd, 255, 256, 1 << 31, 1<<32 + api.NAdd, math.MaxInt, math.MinInt, math.MinInt + api.NAdd} {
		if sign, level := print.Sign(o), print.Level(o); sign != "" || level != 0 {
			t.Errorf("Sign(%d), Level(%d): %q, %d", o, o, sign, level)
		}
	}
}
