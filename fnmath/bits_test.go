package fnmath_test

import (
	"strings"
	"testing"

	"gridiron/api"
)

// P17.1: bits by hand.
func TestBits(t *testing.T) {
	const most = 0x1p48 - 1
	wantSome(t,
		some{"BITAND", just(6, 3), 2}, some{"BITOR", just(6, 3), 7}, some{"BITXOR", just(6, 3), 5}, some{"BITAND", just(6.9, 3.9), 2}, some{"BITAND", just(0, most), 0}, some{"BITOR", just(0, 0), 0}, some{"BITXOR", just(most, most), 0}, some{"BITAND", just(most, most), most}, some{"BITOR", just(0x1p47, 1), 0x1p47 + 1}, some{"BITXOR", just(most, 1), most - 1}, some{"BITAND", just(most+0.5, 0x1p47), 0x1p47},
		some{"BITLSHIFT", just(3, 2), 12}, some{"BITLSHIFT", just(12, -2), 3}, some{"BITRSHIFT", just(12, 2), 3}, some{"BITRSHIFT", just(3, -2), 12}, some{"BITLSHIFT", just(5, 0), 5}, some{"BITRSHIFT", just(5, 0), 5}, some{"BITRSHIFT", just(5, 1), 2}, some{"BITRSHIFT", just(5, 3), 0},
		some{"BITLSHIFT", just(1, 47), 0x1p47}, some{"BITLSHIFT", just(0, 53), 0}, some{"BITRSHIFT", just(0, -53), 0}, some{"BITRSHIFT", just(most, 53), 0}, some{"BITRSHIFT", just(most, 47), 1}, some{"BITLSHIFT", just(most, -48), 0}, some{"BITLSHIFT", just(most, 0), most}, some{"BITLSHIFT", just(0x1p47-1, 1), most - 1},
	)
	for _, name := range strings.Fields("BITAND BITOR BITXOR") {
		for _, x := range []float64{-1, -0.5, most + 1, most + 2, 0x1p53, 1e300} {
			wantFault(t, name, api.ENum, x, 1)
			wantFault(t, name, api.ENum, 1, x)
			wantFault(t, name, api.ENum, x, x)
		}
	}
	for _, name := range strings.Fields("BITLSHIFT BITRSHIFT") {
		for _, x := range []float64{-1, -0.5, most + 1, 0x1p53, 1e300} {
			wantFault(t, name, api.ENum, x, 0)
		}
		for _, k := range []float64{54, -53.5, -54, 100, 0x1p53, 1e300, -1e300} {
			wantFault(t, name, api.ENum, 0, k)
			wantFault(t, name, api.ENum, 1, k)
		}
	}
	for _, k := range []float64{48, 49, 52, 53} {
		wantFault(t, "BITLSHIFT", api.ENum, 1, k)
		wantFault(t, "BITRSHIFT", api.ENum, 1, -k)
		wantFault(t, "BITLSHIFT", api.ENum, most, k-47)
	}
}

// P17.1: bits of numbers at each bound, each shift from below the least to above the greatest.
func TestBitsBounds(t *testing.T) {
	var l []float64
	for i := range 50 {
		at := float64(uint64(1) << i)
		l = append(l, at-1, at, at+1, at*1.5, at+0.5)
	}
	l = append(l, -1, -0.5, 0x1p53)
	d := draws(8)
	for _, n := range l {
		for _, name := range strings.Fields("BITLSHIFT BITRSHIFT") {
			for k := -55.0; k <= 55; k++ {
				check(t, name, singles(n, k)...)
			}
			check(t, name, singles(n, float64(d.below(60)-30)+0.5)...)
		}
		for _, k := range l {
			check(t, "BITAND", singles(n, k)...)
			check(t, "BITOR", singles(n, k)...)
			check(t, "BITXOR", singles(n, k)...)
		}
	}
	for range 20000 {
		n, k := float64(d.below(1<<24)*(1<<24)+d.below(1<<24)), float64(d.below(1<<24)*(1<<24)+d.below(1<<24))
		check(t, pick(&d, "BITAND", "BITOR", "BITXOR"), singles(n, k)...)
		check(t, pick(&d, "BITLSHIFT", "BITRSHIFT"), singles(n, float64(d.below(110)-55))...)
	}
}
