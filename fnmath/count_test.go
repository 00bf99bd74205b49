package fnmath_test

import (
	"math"
	"math/big"
	"testing"

	"gridiron/api"
)

// P17.1: factorials at and beside each bound, and those that are whole in a float as they are.
func TestFactorials(t *testing.T) {
	for n := -3.0; n <= 305; n++ {
		for _, x := range []float64{n, n + 0.5, math.Nextafter(n, 1000)} {
			check(t, "FACT", singles(x)...)
			check(t, "FACTDOUBLE", singles(x)...)
		}
	}
	r := 1.0
	for n := 1.0; n <= 18; n++ {
		r *= n
		wantSome(t, some{"FACT", just(n), r})
	}
	wantSome(t,
		some{"FACT", just(0), 1}, some{"FACT", just(170.9), 7.257415615307994e306}, some{"FACTDOUBLE", just(-1), 1}, some{"FACTDOUBLE", just(0), 1}, some{"FACTDOUBLE", just(1), 1}, some{"FACTDOUBLE", just(2), 2}, some{"FACTDOUBLE", just(5), 15}, some{"FACTDOUBLE", just(6), 48}, some{"FACTDOUBLE", just(300), 8.154414069380588e307},
		// the lesser ones first: the other way the last bits are others
		some{"FACT", just(25), 1.5511210043330986e25}, some{"FACTDOUBLE", just(31), 1.9189878396251062e17},
	)
	for _, n := range []float64{-1, -0.5, -100, 171, 172, 1e300, -1e300} {
		wantFault(t, "FACT", api.ENum, n)
	}
	for _, n := range []float64{-2, -1.5, -100, 301, 302, 1e300, -1e300} {
		wantFault(t, "FACTDOUBLE", api.ENum, n)
	}
}

// choosing are numbers of things to choose: each near to 0, to n and to the greatest, and some between.
func choosing(n float64) []float64 {
	var out []float64
	for k := -2.0; k <= 30; k++ {
		out = append(out, k, n-k, 1001-k, 31*k)
	}
	return out
}

// P17.1: choices: those that are whole in a float, and each k at and beside the greatest n.
func TestCombinations(t *testing.T) {
	for n := range int64(51) {
		for k := range n + 1 {
			want := floatOf(new(big.Int).Binomial(n, k))
			wantSome(t, some{"COMBIN", just(float64(n), float64(k)), want})
			if own := n - k + 1; own >= max(k, 1) {
				// k of n - k + 1, each any number of times
				wantSome(t, some{"COMBINA", just(float64(own), float64(k)), want})
			}
		}
	}
	for _, n := range []float64{0, 1, 2, 3, 170, 500, 998, 999, 1000, 1001, 1002} {
		for _, k := range choosing(n) {
			check(t, "COMBIN", singles(n, k)...)
			check(t, "PERMUT", singles(n, k)...)
			check(t, "PERMUTATIONA", singles(n/100, k)...)
			check(t, "COMBINA", singles(n, k)...)
			check(t, "COMBINA", singles(n+1-k, k)...)
			check(t, "COMBINA", singles(k, n)...)
		}
	}
	wantSome(t,
		some{"COMBIN", just(1000, 1000), 1}, some{"COMBIN", just(1000.9, 0.9), 1}, some{"COMBIN", just(1000, 500), 2.7028824094543666e299}, some{"COMBIN", just(0, 0), 1},
		some{"COMBINA", just(0, 0), 1}, some{"COMBINA", just(3, 2), 6}, some{"COMBINA", just(3, 3), 10}, some{"COMBINA", just(1, 1), 1}, some{"COMBINA", just(1, 0), 1}, some{"COMBINA", just(501, 500), 2.7028824094543666e299}, some{"COMBINA", just(1001, 0), 1}, some{"COMBINA", just(1000, 1), 1000}, some{"COMBINA", just(0.5, 0.5), 1},
		// the product first, and then the quotient: other ways have other last bits
		some{"COMBIN", just(57, 28), 1.5033633249770518e16}, some{"COMBIN", just(69, 20), 1.1563185975904136e17}, some{"COMBIN", just(69, 49), 1.1563185975904136e17},
	)
	for _, x := range [][]float64{{-1, 0}, {5, -1}, {5, 6}, {5, -0.1}, {-0.1, 0}, {1001, 0}, {1001, 1001}, {1001, 5}, {0x1p53, 0x1p53}, {0x1p53, 0}} {
		wantFault(t, "COMBIN", api.ENum, x...)
		wantFault(t, "PERMUT", api.ENum, x...)
	}
	for _, x := range [][]float64{{-1, 0}, {-1, 5}, {5, -1}, {0, 1}, {0, 1000}, {1002, 0}, {1001, 1}, {1000, 2}, {501, 501}, {1, 2}, {1, 1000}, {2, 3}, {2.9, 3}, {500, 501}, {0x1p53, 0x1p53}, {-0.5, 1}, {-0x1p53, 0x1p53}} {
		wantFault(t, "COMBINA", api.ENum, x...)
	}
}

// P17.1: rows of things, by hand.
func TestPermutations(t *testing.T) {
	wantSome(t,
		some{"PERMUT", just(5, 2), 20}, some{"PERMUT", just(5, 5), 120}, some{"PERMUT", just(5, 0), 1}, some{"PERMUT", just(0, 0), 1}, some{"PERMUT", just(5.9, 2.9), 20}, some{"PERMUT", just(1000, 2), 999000}, some{"PERMUT", just(1000, 1), 1000}, some{"PERMUT", just(1000, 0), 1},
		some{"PERMUTATIONA", just(5, 2), 25}, some{"PERMUTATIONA", just(5, 0), 1}, some{"PERMUTATIONA", just(0, 0), 1}, some{"PERMUTATIONA", just(0, 3), 0}, some{"PERMUTATIONA", just(2, 5), 32}, some{"PERMUTATIONA", just(1, 1000), 1}, some{"PERMUTATIONA", just(0x1p53, 2), 0x1p106}, some{"PERMUTATIONA", just(2, 1000), 0x1p1000}, some{"PERMUTATIONA", just(1001, 1), 1001},
		// from the greatest on, and one by one: other ways have other last bits
		some{"PERMUT", just(24, 20), 2.5852016738884974e22}, some{"PERMUTATIONA", just(10, 26), 9.999999999999999e25}, some{"PERMUTATIONA", just(3, 36), 1.500946352969991e17},
	)
	for _, x := range [][]float64{{1000, 1000}, {1000, 200}, {171, 171}} {
		wantFault(t, "PERMUT", api.ENum, x...)
	}
	for _, x := range [][]float64{{-1, 0}, {5, -1}, {1, 1001}, {0, 1001}, {2, 1024}, {10, 309}, {0x1p53, 20}, {-0.5, 3}} {
		wantFault(t, "PERMUTATIONA", api.ENum, x...)
	}
}

// P17.1: many kinds of things in a row.
func TestMultinomial(t *testing.T) {
	wantSome(t,
		some{"MULTINOMIAL", just(2, 3, 4), 1260}, some{"MULTINOMIAL", just(5), 1}, some{"MULTINOMIAL", just(0), 1}, some{"MULTINOMIAL", just(0.9, 1.9), 1}, some{"MULTINOMIAL", just(2, 3.9), 10}, some{"MULTINOMIAL", just(1, 1, 1), 6},
		some{"MULTINOMIAL", just(170), 1}, some{"MULTINOMIAL", just(169, 1), 170}, some{"MULTINOMIAL", just(169.9, 1.9), 170}, some{"MULTINOMIAL", just(0, 170, 0), 1},
	)
	for _, l := range [][]float64{{-1}, {5, -0.1}, {-0.1, 5}, {171}, {170, 1}, {100, 71}, {170, -1}, {1, 200, -100}, {math.MaxFloat64, math.MaxFloat64}, {1e300}, {-1e300, 1e300}} {
		wantFault(t, "MULTINOMIAL", api.ENum, l...)
	}
	want(t, "MULTINOMIAL", num(1), refer(single(api.Value{})))
	want(t, "MULTINOMIAL", num(1), missing())
	want(t, "MULTINOMIAL", num(1260), refer(column(2, 3)), refer(block(1, text("x"), num(4))))
	d := draws(3)
	for range 4000 {
		var l []float64
		for range 1 + d.below(6) {
			l = append(l, float64(d.below(pick(&d, 8, 30, 60)))+pick(&d, 0, 0, 0.7)-pick(&d, 0, 0, 0, 0, 0, 0, 0.1)+0)
		}
		check(t, "MULTINOMIAL", singles(l...)...)
		check(t, "MULTINOMIAL", refer(column(l...)))
	}
}

// P17.1: divisors and multiples at 0, at 2^53, beyond, and of none.
func TestDivisors(t *testing.T) {
	const far = 0x1p53
	wantSome(t,
		some{"GCD", just(0), 0}, some{"GCD", just(0, 0), 0}, some{"GCD", just(0, 5), 5}, some{"GCD", just(5, 0), 5}, some{"GCD", just(7, 5), 1}, some{"GCD", just(12.9, 18.9), 6}, some{"GCD", just(0.5), 0}, some{"GCD", just(60, 48, 36), 12}, some{"GCD", just(far, 0x1p52), 0x1p52}, some{"GCD", just(far, far-1), 1}, some{"GCD", just(far), far}, some{"GCD", just(6, 6), 6},
		some{"LCM", just(0), 0}, some{"LCM", just(0, 5), 0}, some{"LCM", just(5, 0), 0}, some{"LCM", just(0, 0), 0}, some{"LCM", just(4, 6), 12}, some{"LCM", just(4.9, 6.9), 12}, some{"LCM", just(0.5, 3), 0}, some{"LCM", just(1), 1}, some{"LCM", just(far), far}, some{"LCM", just(far, 0x1p30), far}, some{"LCM", just(2, 3, 4, 5, 6), 60}, some{"LCM", just(0x1p27-1, 0x1p26), (0x1p27 - 1) * 0x1p26}, some{"LCM", just(far, 0), 0}, some{"LCM", just(0, far, 3), 0}, some{"LCM", just(far, 1), far}, some{"LCM", just(far-1, far-1), far - 1},
	)
	for _, l := range [][]float64{{-1}, {-0.1}, {5, -1}, {-1, 5}, {far + 2}, {1, far + 2}, {1e300}, {-1e300}, {0, -1}, {0, far + 2}} {
		wantFault(t, "GCD", api.ENum, l...)
		wantFault(t, "LCM", api.ENum, l...)
	}
	// at some step, though the numbers themselves are not above it
	for _, l := range [][]float64{{far, 3}, {3, far}, {far, far - 1}, {0x1p27 + 1, 0x1p26}, {0x1p52 + 1, 2}, {94906267, 94906266}, {far, 3, 0}, {far - 1, far - 2, far}} {
		wantFault(t, "LCM", api.ENum, l...)
	}
	for _, a := range []api.Arg{missing(), refer(single(api.Value{})), refer(block(2, text("4"), truth(true))), block(1, api.Value{}, api.Value{})} {
		want(t, "GCD", num(0), a)
		want(t, "LCM", num(1), a)
	}
	d := draws(4)
	for range 10000 {
		var l []float64
		for range 1 + d.below(4) {
			x := pick(&d, float64(d.below(100)), float64(d.below(1<<20)*720), float64(d.below(1<<31)*(1<<22)), 0x1p53-float64(d.below(4)), d.float())
			l = append(l, x+0)
		}
		check(t, "GCD", singles(l...)...)
		check(t, "LCM", singles(l...)...)
	}
}
