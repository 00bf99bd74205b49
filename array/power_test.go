package array_test

import (
	"math"
	"testing"

	"gridiron/api"
)

func wantPower(t *testing.T, x, y float64, want api.Value) {
	t.Helper()
	wantBinary(t, api.NPow, num(x), num(y), want)
}

// P16.3: powers by hand.
func TestPower(t *testing.T) {
	for _, x := range []struct{ x, y, want float64 }{
		{2, 10, 1024}, {2, -2, 0.25}, {9, 0.5, 3}, {2, 0.5, math.Sqrt2}, {0, 0.5, 0}, {0, 1, 0}, {0, 2, 0}, {0, 1024, 0},
		{-3, 3, -27}, {-3, 2, 9}, {-2, -3, -0.125}, {5, 0, 1}, {-5, 0, 1}, {5, 1, 5}, {5, -1, 0.2}, {-1, 1023, -1}, {-1, 1024, 1}, {1, -1024, 1},
		{2, 1023, 0x1p1023}, {2, -1022, 0x1p-1022}, {2, -1023, 0x1p-1023}, {0.5, 1024, 0x1p-1024}, {math.MaxFloat64, 1, math.MaxFloat64}, {math.SmallestNonzeroFloat64, 1, math.SmallestNonzeroFloat64}, {math.SmallestNonzeroFloat64, 0.5, 0x1p-537}, {math.MaxFloat64, 0, 1},
	} {
		wantPower(t, x.x, x.y, num(x.want))
	}
}

// P16.3: powers that there are not.
func TestNoPower(t *testing.T) {
	beside := math.Nextafter
	for _, y := range []float64{-1, -2, -0.5, -1024, -1025, -0.25, -math.MaxFloat64, -math.SmallestNonzeroFloat64} {
		wantPower(t, 0, y, fault(api.EDiv))
	}
	wantPower(t, 0, 0, fault(api.ENum))
	for _, x := range []float64{0, 1, 2, 4, -1, -2, 0.5} {
		for _, y := range []float64{1025, 2000, math.MaxFloat64, 1024.5, beside(1024, 2000), beside(1024, 0), 1.5, 2.5, 1023.5, beside(0.5, 1), beside(0.5, 0), beside(1, 2), beside(1, 0), beside(2, 3), 0.25, math.SmallestNonzeroFloat64} {
			wantPower(t, x, y, fault(api.ENum))
			if x != 0 {
				wantPower(t, x, -y, fault(api.ENum))
			}
		}
		if x != 0 {
			wantPower(t, x, -0.5, fault(api.ENum))
		}
		if x < 0 {
			wantPower(t, x, 0.5, fault(api.ENum))
		}
	}
	wantPower(t, -math.SmallestNonzeroFloat64, 0.5, fault(api.ENum))
}

// P16.3: powers that overflow and that come to nought, on the way and at the end.
func TestPowerLimits(t *testing.T) {
	huge, tiny := math.MaxFloat64, math.SmallestNonzeroFloat64
	wantPower(t, 2, 1024, fault(api.ENum))
	wantPower(t, -2, 1023, num(-0x1p1023))
	wantPower(t, 10, 309, fault(api.ENum))
	wantPower(t, -10, 309, fault(api.ENum))
	wantPower(t, huge, 2, fault(api.ENum))
	// 1 / p of an infinity is 0, of either sign
	wantPower(t, 2, -1024, num(0))
	wantPower(t, huge, -2, num(0))
	wantPower(t, -huge, -3, num(0))
	wantPower(t, 10, -320, num(0))
	// what comes to nought is 0, and 1 / p of it no number
	wantPower(t, tiny, 2, num(0))
	wantPower(t, -tiny, 3, num(0))
	wantPower(t, 0.1, 400, num(0))
	wantPower(t, -0.1, 401, num(0))
	wantPower(t, tiny, -2, fault(api.ENum))
	wantPower(t, -tiny, -3, fault(api.ENum))
	wantPower(t, tiny, -1, fault(api.ENum))
	wantPower(t, 0.1, -400, fault(api.ENum))
	wantPower(t, huge, -1, num(1/huge))
}

// P16.3: powers of operands that are no numbers, and their errors.
func TestPowerOfOthers(t *testing.T) {
	wantBinary(t, api.NPow, text("2"), text("1e1"), num(1024))
	wantBinary(t, api.NPow, truth(true), truth(false), num(1))
	wantBinary(t, api.NPow, api.Value{}, api.Value{}, fault(api.ENum))
	wantBinary(t, api.NPow, api.Value{}, truth(true), num(0))
	wantBinary(t, api.NPow, num(2), api.Value{}, num(1))
	wantBinary(t, api.NPow, text("x"), fault(api.ENA), fault(api.EValue))
	wantBinary(t, api.NPow, fault(api.ENA), text("x"), fault(api.ENA))
	wantBinary(t, api.NPow, num(0), text("-1"), fault(api.EDiv))
}

// P16.3: squaring, to the last bit, for each exponent from below the least to above the greatest.
func TestSquaring(t *testing.T) {
	bases := []float64{2, 3, -3, 0.1, -0.1, 1.1, 0.9, 10, 7, 1.0000001, 0.9999999, math.Pi, -math.E, math.Nextafter(1, 2), math.Nextafter(1, 0), -math.Nextafter(1, 2), 1.5, 1e10, 1e-10, 0x1p512, 0x1.8p-537, math.MaxFloat64, math.SmallestNonzeroFloat64}
	for _, x := range bases {
		for y := -1026; y <= 1026; y++ {
			wantPower(t, x, float64(y), modelPower(x, float64(y)))
		}
		wantPower(t, x, 0.5, modelPower(x, 0.5))
	}
	// these are other numbers, if the lowest bit goes first, or if it is multiplied one by one
	for _, x := range []struct{ x, y, want float64 }{{1.1, 6, 1.771561000000001}, {1.1, 10, 2.593742460100002}, {1.1, 12, 3.138428376721004}, {1.1, 19, 6.115909044841462}, {0.1, 12, 1.0000000000000008e-12}, {0.9, 10, 0.3486784401000002}} {
		wantPower(t, x.x, x.y, num(x.want))
	}
}

// P16.3: drawn bases and exponents.
func TestPowerDrawn(t *testing.T) {
	d := draws(4)
	for range 20000 {
		x := math.Float64frombits(uint64(d.below(1<<31))<<33 ^ uint64(d.below(1<<31))<<11)
		if d.yes() {
			x = (float64(d.below(4001)) - 2000) / 1000
		}
		if x-x != 0 || x == 0 {
			continue
		}
		y := float64(d.below(2100)-1050) / pick(&d, 1.0, 1, 1, 2, 100)
		wantPower(t, x, y, modelPower(x, y))
		wantPower(t, math.Abs(x), 0.5, modelPower(math.Abs(x), 0.5))
	}
}
