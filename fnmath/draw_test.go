package fnmath_test

import (
	"fmt"
	"math"
	"slices"
	"testing"

	"gridiron/api"
)

// P17.1: the first draw, or 0, where there is none that may be; those behind it are not looked at.
func TestRand(t *testing.T) {
	below1 := math.Nextafter(1, 0)
	for _, x := range []struct {
		draws []float64
		want  float64
	}{
		{nil, 0}, {just(), 0}, {just(0), 0}, {just(0.5), 0.5}, {just(0.25, 0.5), 0.25}, {just(below1), below1}, {just(math.SmallestNonzeroFloat64), math.SmallestNonzeroFloat64},
		{just(1), 0}, {just(1.5), 0}, {just(-0.5), 0}, {just(-math.SmallestNonzeroFloat64), 0}, {just(math.Nextafter(1, 2)), 0}, {just(most), 0}, {just(-most), 0}, {just(nan), 0}, {just(below0), 0}, {just(math.MaxFloat64), 0},
		{just(1, 0.5), 0}, {just(nan, 0.5), 0}, {just(-1, 0.5), 0}, {just(0.5, nan), 0.5},
	} {
		for _, now := range []float64{0, 45000.5, nan, most} {
			env := api.Env{Now: now, Draws: x.draws}
			wantDrawn(t, "RAND", env, num(x.want), true)
			at := math.Floor(x.want * 9)
			wantDrawn(t, "RANDBETWEEN", env, num(1+at), true, singles(1, 9)...)
			wantDrawn(t, "SUM", env, num(3), true, singles(1, 2)...)
		}
	}
}

// P17.1: whole numbers between two, by hand.
func TestRandBetween(t *testing.T) {
	below1 := math.Nextafter(1, 0)
	for _, x := range []struct{ draw, n, k, want float64 }{
		{0, 1, 6, 1}, {0.5, 1, 6, 4}, {below1, 1, 6, 6}, {0.999, 1, 6, 6}, {1.0 / 6, 1, 6, 2}, {0.16, 1, 6, 1}, {0, 5, 5, 5}, {below1, 5, 5, 5}, {0.5, -3, -1, -2}, {0.5, -1, 1, 0}, {0, 0, 0, 0}, {0.5, 1.9, 2.9, 2}, {0.25, -0.5, 0.5, -1}, {0.5, -0.5, 0.5, 0},
		{0, -0x1p53, 0x1p53, -0x1p53}, {0.5, -0x1p53, 0x1p53, 0}, {below1, -0x1p53, 0x1p53, 0x1p53 - 2}, {below1, 0x1p53 - 1, 0x1p53, 0x1p53}, {below1, 0, 0x1p53 - 1, 0x1p53 - 1}, {below1, 1, 0x1p53, 0x1p53},
	} {
		wantDrawn(t, "RANDBETWEEN", api.Env{Draws: just(x.draw)}, num(x.want), true, singles(x.n, x.k)...)
	}
	for _, x := range [][]float64{{2, 1}, {0, -1}, {1, 0.9}, {0x1p53, -0x1p53}} {
		wantFault(t, "RANDBETWEEN", api.ENum, x...)
	}
}

// P17.1: drawn draws between drawn numbers, to the last bit, never beside them.
func TestRandDrawn(t *testing.T) {
	d := draws(9)
	for range 30000 {
		draw := pick(&d, float64(d.below(1<<30))/(1<<30), 1-float64(d.below(10))/0x1p53, float64(d.below(10))/7, d.float())
		n := pick(&d, float64(d.below(100)-50), 0x1p53-float64(d.below(10)), float64(d.below(10))-0x1p53, d.float())
		k := pick(&d, n+float64(d.below(100)), 0x1p53-float64(d.below(10)), d.float())
		args, env := singles(n+0, k+0), api.Env{Draws: just(draw, 0.5)}
		v, is := model("RANDBETWEEN", args, env.Draws)
		wantDrawn(t, "RANDBETWEEN", env, v, is, args...)
		if v.Kind == api.VNum && (v.Num < floorOf(n) || v.Num > floorOf(k)) {
			t.Error(fmt.Sprint("beside them: ", n, k, draw, v.Num))
		}
		v, is = model("RAND", nil, env.Draws)
		wantDrawn(t, "RAND", env, v, is)
		if !slices.Equal(env.Draws, just(draw, 0.5)) && draw == draw {
			t.Error("draws have changed")
		}
	}
}
