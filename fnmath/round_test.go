package fnmath_test

import (
	"math"
	"strings"
	"testing"

	"gridiron/api"
	"gridiron/fnmath"
)

// some is a function of numbers, and what it answers.
type some struct {
	name string
	x    []float64
	want float64
}

func wantSome(t *testing.T, l ...some) {
	t.Helper()
	for _, s := range l {
		want(t, s.name, num(s.want), singles(s.x...)...)
	}
}

// wantFault asks for an error of a function of numbers.
func wantFault(t *testing.T, name string, code int, x ...float64) {
	t.Helper()
	want(t, name, fault(code), singles(x...)...)
}

func just(l ...float64) []float64 { return l }

// The chapter's examples.
func TestExamples(t *testing.T) {
	wantSome(t, some{"ROUND", just(2.5), 3}, some{"ROUND", just(-2.5), -3}, some{"ROUND", just(1234, -2), 1200}, some{"MOD", just(-7, 3), 2}, some{"COMBIN", just(5, 2), 10}, some{"GCD", just(12, 18), 6})
	want(t, "BASE", text("00FF"), singles(255, 16, 4)...)
	want(t, "ROMAN", text("MCMXCIX"), singles(1999)...)
	want(t, "SUM", num(1), refer(block(3, num(1), text("2"), truth(true))))
	want(t, "SUM", num(3), single(num(1)), single(text("2")))
}

// P17.1: amounts, signs and what is below a number.
func TestAmounts(t *testing.T) {
	tiny, huge := math.SmallestNonzeroFloat64, math.MaxFloat64
	wantSome(t,
		some{"ABS", just(-3), 3}, some{"ABS", just(3), 3}, some{"ABS", just(0), 0}, some{"ABS", just(-huge), huge}, some{"ABS", just(-tiny), tiny},
		some{"SIGN", just(-3), -1}, some{"SIGN", just(3), 1}, some{"SIGN", just(0), 0}, some{"SIGN", just(tiny), 1}, some{"SIGN", just(-tiny), -1}, some{"SIGN", just(-huge), -1},
		some{"INT", just(2.7), 2}, some{"INT", just(-2.7), -3}, some{"INT", just(-2), -2}, some{"INT", just(0.9), 0}, some{"INT", just(-tiny), -1}, some{"INT", just(tiny), 0}, some{"INT", just(huge), huge}, some{"INT", just(-huge), -huge},
		some{"SQRT", just(9), 3}, some{"SQRT", just(2), math.Sqrt2}, some{"SQRT", just(0), 0}, some{"SQRT", just(tiny), 0x1p-537},
		some{"POWER", just(2, 10), 1024}, some{"POWER", just(9, 0.5), 3}, some{"POWER", just(2, -2), 0.25}, some{"POWER", just(-3, 3), -27}, some{"POWER", just(1.1, 19), 6.115909044841462},
		some{"GESTEP", just(3, 2), 1}, some{"GESTEP", just(2, 2), 1}, some{"GESTEP", just(2, 3), 0}, some{"GESTEP", just(-1), 0}, some{"GESTEP", just(2, math.Nextafter(2, 3)), 0},
		some{"DELTA", just(2, 2), 1}, some{"DELTA", just(2, 3), 0}, some{"DELTA", just(3, 2), 0}, some{"DELTA", just(2, -2), 0}, some{"DELTA", just(2, math.Nextafter(2, 3)), 0},
	)
	wantFault(t, "SQRT", api.ENum, -1)
	wantFault(t, "SQRT", api.ENum, -tiny)
	wantFault(t, "POWER", api.ENum, 0, 0)
	wantFault(t, "POWER", api.EDiv, 0, -1)
	wantFault(t, "POWER", api.ENum, 2, 1.5)
	wantFault(t, "POWER", api.ENum, 2, 1025)
	wantFault(t, "POWER", api.ENum, -1, 0.5)
	wantFault(t, "POWER", api.ENum, 2, 1024)
}

// P17.1: roundings by hand: halves of either sign, places behind the point and ahead of it, and beyond those that there are.
func TestRound(t *testing.T) {
	wantSome(t,
		some{"ROUND", just(0.5), 1}, some{"ROUND", just(-0.5), -1}, some{"ROUND", just(1.5), 2}, some{"ROUND", just(2.4), 2}, some{"ROUND", just(-2.4), -2}, some{"ROUND", just(-0.4), 0}, some{"ROUND", just(0), 0},
		some{"ROUND", just(1.25, 1), 1.3}, some{"ROUND", just(-1.25, 1), -1.3}, some{"ROUND", just(1.005, 2), 1}, some{"ROUND", just(1250, -2), 1300}, some{"ROUND", just(-1250, -2), -1300}, some{"ROUND", just(1249, -2), 1200}, some{"ROUND", just(49, -2), 0}, some{"ROUND", just(50, -2), 100},
		// a sum of floats may be rounded itself
		some{"ROUND", just(math.Nextafter(0.5, 0)), 1}, some{"ROUND", just(0x1p52 + 1), 0x1p52 + 2}, some{"ROUND", just(0x1p53), 0x1p53},
		some{"ROUNDUP", just(2.1), 3}, some{"ROUNDUP", just(-2.1), -3}, some{"ROUNDUP", just(2), 2}, some{"ROUNDUP", just(0), 0}, some{"ROUNDUP", just(1.21, 1), 1.3}, some{"ROUNDUP", just(1201, -2), 1300}, some{"ROUNDUP", just(-1, -2), -100}, some{"ROUNDUP", just(math.SmallestNonzeroFloat64), 1}, some{"ROUNDUP", just(1, -20), 1e20}, some{"ROUNDUP", just(1e-300, 20), 1e-20},
		some{"ROUNDDOWN", just(2.9), 2}, some{"ROUNDDOWN", just(-2.9), -2}, some{"ROUNDDOWN", just(1.29, 1), 1.2}, some{"ROUNDDOWN", just(-1299, -2), -1200}, some{"ROUNDDOWN", just(1e20, -20), 1e20}, some{"ROUNDDOWN", just(math.Nextafter(1e20, 0), -20), 0},
		some{"TRUNC", just(2.9), 2}, some{"TRUNC", just(-2.9), -2}, some{"TRUNC", just(-0.9), 0}, some{"TRUNC", just(-1.29, 1), -1.2}, some{"TRUNC", just(1299, -2), 1200},
	)
	for _, name := range strings.Fields("ROUND ROUNDUP ROUNDDOWN TRUNC") {
		for _, x := range []float64{0.1, -0.1, 1.5e-300, math.MaxFloat64, -math.MaxFloat64, math.SmallestNonzeroFloat64} {
			for _, n := range []float64{21, 21.5, 22, 1000, 0x1p53} {
				wantSome(t, some{name, just(x, n), x})
			}
			for _, n := range []float64{-20.5, -21, -22, -1000, -0x1p53} {
				if name == "ROUNDUP" {
					wantFault(t, name, api.ENum, x, n)
				} else {
					wantSome(t, some{name, just(x, n), 0})
				}
				wantSome(t, some{name, just(0, n), 0})
			}
		}
		// times p it would be an infinity
		wantSome(t, some{name, just(math.MaxFloat64, 1), math.MaxFloat64}, some{name, just(-1e308, 20), -1e308}, some{name, just(math.MaxFloat64, 0), math.MaxFloat64})
	}
}

// P17.1: roundings, to the last bit, with each n from below the least to above the greatest, at halves and beside them, at the greatest floats and the least.
func TestRoundPlaces(t *testing.T) {
	names := strings.Fields("ROUND ROUNDUP ROUNDDOWN TRUNC")
	d := draws(1)
	for n := -23.0; n <= 23; n++ {
		x := edges()
		for range 60 {
			half := (float64(d.below(2000)) + 0.5) * math.Pow(10, -n)
			x = append(x, half, -half, math.Nextafter(half, 0), math.Nextafter(half, half*2), half*2, math.Nextafter(half*2, 0), d.float())
		}
		for _, x := range x {
			if x-x != 0 {
				continue
			}
			for _, name := range names {
				check(t, name, singles(x+0, n)...)
			}
		}
	}
	for range 5000 {
		check(t, pick(&d, names...), singles(d.float()+0, float64(d.below(50)-25)+pick(&d, 0, 0.5))...)
	}
}

// P17.1: multiples by hand.
func TestMultiples(t *testing.T) {
	wantSome(t,
		some{"MROUND", just(7, 3), 6}, some{"MROUND", just(8, 3), 9}, some{"MROUND", just(7.5, 3), 9}, some{"MROUND", just(-7.5, -3), -9}, some{"MROUND", just(-7, -3), -6}, some{"MROUND", just(5, 0), 0}, some{"MROUND", just(-5, 0), 0}, some{"MROUND", just(0, 3), 0}, some{"MROUND", just(0, -3), 0}, some{"MROUND", just(1, 3), 0}, some{"MROUND", just(1, 0.3), 0.8999999999999999},
		some{"CEILING", just(2.1), 3}, some{"CEILING", just(-2.1), -2}, some{"CEILING", just(-0.5), 0}, some{"CEILING", just(7, 3), 9}, some{"CEILING", just(-7, 3), -6}, some{"CEILING", just(-7, -3), -9}, some{"CEILING", just(6, 3), 6}, some{"CEILING", just(0, -3), 0}, some{"CEILING", just(5, 0), 0}, some{"CEILING", just(0.1, 0.3), 0.3},
		some{"FLOOR", just(2.9), 2}, some{"FLOOR", just(-2.1), -3}, some{"FLOOR", just(7, 3), 6}, some{"FLOOR", just(-7, 3), -9}, some{"FLOOR", just(-7, -3), -6}, some{"FLOOR", just(6, 3), 6}, some{"FLOOR", just(0, -3), 0}, some{"FLOOR", just(5, 0), 0}, some{"FLOOR", just(-5, 0), 0}, some{"FLOOR", just(0.3, 0.1), 0.2},
		some{"EVEN", just(0), 0}, some{"EVEN", just(0.1), 2}, some{"EVEN", just(1), 2}, some{"EVEN", just(2), 2}, some{"EVEN", just(2.1), 4}, some{"EVEN", just(-1.5), -2}, some{"EVEN", just(-2.1), -4}, some{"EVEN", just(-3), -4},
		some{"ODD", just(0), 1}, some{"ODD", just(0.1), 1}, some{"ODD", just(1), 1}, some{"ODD", just(1.1), 3}, some{"ODD", just(2), 3}, some{"ODD", just(-0.5), -1}, some{"ODD", just(-1), -1}, some{"ODD", just(-1.1), -3}, some{"ODD", just(-2), -3},
	)
	for _, x := range [][]float64{{1, -1}, {-1, 1}, {math.SmallestNonzeroFloat64, -1}, {-math.MaxFloat64, math.SmallestNonzeroFloat64}} {
		wantFault(t, "MROUND", api.ENum, x...)
	}
	for _, name := range []string{"CEILING", "FLOOR"} {
		wantFault(t, name, api.ENum, 1, -1)
		wantFault(t, name, api.ENum, math.SmallestNonzeroFloat64, -math.MaxFloat64)
	}
	for _, name := range []string{"MROUND", "CEILING", "FLOOR"} {
		wantFault(t, name, api.ENum, math.MaxFloat64, 0.5)
		wantFault(t, name, api.ENum, -math.MaxFloat64, -0.5)
	}
}

// P17.1: the next even and odd numbers at 2^52 and beyond.
func TestParityLimits(t *testing.T) {
	const most = 0x1p52
	for _, sign := range []float64{1, -1} {
		wantSome(t,
			some{"EVEN", just(sign * most), sign * most}, some{"ODD", just(sign * most), sign * (most + 1)}, some{"EVEN", just(sign * (most - 1)), sign * most}, some{"ODD", just(sign * (most - 1)), sign * (most - 1)},
			some{"EVEN", just(sign * (most - 0.5)), sign * most}, some{"ODD", just(sign * (most - 0.5)), sign * (most + 1)}, some{"EVEN", just(sign * (most - 1.5)), sign * most}, some{"ODD", just(sign * (most - 1.5)), sign * (most - 1)},
		)
		for _, x := range []float64{most + 1, most + 2, most * 2, 1e300, math.MaxFloat64} {
			wantFault(t, "EVEN", api.ENum, sign*x)
			wantFault(t, "ODD", api.ENum, sign*x)
		}
	}
}

// P17.1: quotients and what they leave, by hand.
func TestDivision(t *testing.T) {
	wantSome(t,
		some{"MOD", just(7, 3), 1}, some{"MOD", just(7, -3), -2}, some{"MOD", just(-7, -3), -1}, some{"MOD", just(6, 3), 0}, some{"MOD", just(-6, 3), 0}, some{"MOD", just(0, 3), 0}, some{"MOD", just(2.5, 1), 0.5}, some{"MOD", just(0.3, 0.1), 0.09999999999999998}, some{"MOD", just(1, 0.1), 0}, some{"MOD", just(5, 1e300), 5}, some{"MOD", just(-5, 1e300), 1e300},
		some{"QUOTIENT", just(7, 3), 2}, some{"QUOTIENT", just(-7, 3), -2}, some{"QUOTIENT", just(7, -3), -2}, some{"QUOTIENT", just(-7, -3), 2}, some{"QUOTIENT", just(-1, 3), 0}, some{"QUOTIENT", just(1, -3), 0}, some{"QUOTIENT", just(0, 3), 0}, some{"QUOTIENT", just(0.3, 0.1), 2}, some{"QUOTIENT", just(1, 0.1), 10},
	)
	for _, name := range []string{"MOD", "QUOTIENT"} {
		for _, x := range []float64{0, 1, -1, math.MaxFloat64} {
			wantFault(t, name, api.EDiv, x, 0)
		}
		wantFault(t, name, api.ENum, math.MaxFloat64, 0.5)
		wantFault(t, name, api.ENum, -math.MaxFloat64, 0.5)
		wantFault(t, name, api.ENum, 1, math.SmallestNonzeroFloat64)
	}
}

// P17.1: all functions of one and of two numbers over every edge and every two of them, to the last bit.
func TestEdges(t *testing.T) {
	for _, name := range all() {
		least, most, _ := fnmath.Arity(name)
		for _, x := range edges() {
			if least <= 1 && most >= 1 {
				check(t, name, singles(x)...)
			}
			if least > 2 || most < 2 {
				continue
			}
			for _, y := range edges() {
				check(t, name, singles(x, y)...)
			}
		}
	}
}

// P17.1: quotients near to whole numbers.
func TestNearWholes(t *testing.T) {
	d := draws(2)
	names := strings.Fields("MROUND CEILING FLOOR MOD QUOTIENT")
	for range 20000 {
		y := pick(&d, d.float(), 0.1, 0.3, 3, 0.01, 1.0/3, 7e-5)
		x := y * pick(&d, float64(d.below(2000)-1000), float64(d.below(2000)-1000)+0.5, float64(d.below(1<<31)))
		x = pick(&d, x, math.Nextafter(x, 0), math.Nextafter(x, most), math.Nextafter(x, -most), -x)
		if x-x == 0 {
			check(t, pick(&d, names...), singles(x+0, y+0)...)
		}
	}
}
