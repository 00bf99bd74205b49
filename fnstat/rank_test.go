package fnstat_test

import (
	"math"
	"slices"
	"strings"
	"testing"

	"gridiron/api"
)

// wantAt asks a function of numbers and one more; beside a code above 0 there is no number.
func wantAt(t *testing.T, name string, l []float64, x, v float64, code int) {
	t.Helper()
	a := refer(block(1, append(values(l...), api.Value{})...))
	if code > 0 {
		want(t, name, fault(code), a, single(num(x)))
		return
	}
	want(t, name, num(v), a, single(num(x)))
}

// P18.3: the k-th number, from either end; below 1 and above n there is none.
func TestLargeAndSmall(t *testing.T) {
	l := just(3, 1, 4, 1, 5, -2)
	for i, x := range just(5, 4, 3, 1, 1, -2) {
		k := float64(i + 1)
		for _, part := range just(0, 0.5, 0.999) {
			wantAt(t, "LARGE", l, k+part, x, 0)
			wantAt(t, "SMALL", l, 6-k+1+part, x, 0)
		}
	}
	for _, name := range []string{"LARGE", "SMALL"} {
		for _, k := range just(0, 0.5, math.Nextafter(1, 0), -1, 7, 7.5, 0x1p53, -0x1p53, 1e300) {
			wantAt(t, name, l, k, 0, api.ENum)
		}
		wantAt(t, name, l, math.Nextafter(7, 0), map[string]float64{"LARGE": -2, "SMALL": 5}[name], 0)
		wantAt(t, name, nil, 1, 0, api.ENum)
		wantAt(t, name, nil, 0, 0, api.ENum)
		wantAt(t, name, just(8), 1, 8, 0)
		wantAt(t, name, just(8, 8), 2, 8, 0)
		want(t, name, num(7), single(text("7")), single(text("1")))
		want(t, name, num(7), single(num(7)), single(truth(true)))
		want(t, name, num(0), single(api.Value{}), single(num(1)))
		want(t, name, fault(api.ENum), missing(), single(num(1)))
		want(t, name, fault(api.ENum), refer(single(text("7"))), single(num(1)))
		want(t, name, fault(api.ENum), numbers(1, 2), missing())
		want(t, name, fault(api.EValue), numbers(1, 2), numbers(1, 2))
	}
}

// P18.1: ranks, from the greatest on and from the least, with numbers that stand there twice.
func TestRank(t *testing.T) {
	l := numbers(7, 3, 3, 9, 1)
	for _, x := range []struct{ x, down, up float64 }{{9, 1, 5}, {7, 2, 4}, {3, 3, 2}, {1, 5, 1}} {
		want(t, "RANK", num(x.down), single(num(x.x)), l)
		want(t, "RANK", num(x.down), single(num(x.x)), l, single(num(0)))
		want(t, "RANK", num(x.up), single(num(x.x)), l, single(num(-0.5)))
	}
	for _, x := range just(0, 2, 10, math.Nextafter(3, 4), -3) {
		want(t, "RANK", fault(api.ENA), single(num(x)), l)
		want(t, "RANK", fault(api.ENA), single(num(x)), l, single(num(1)))
	}
	want(t, "RANK", num(2), single(num(2)), numbers(1, 2, 6))
	want(t, "RANK", fault(api.ENA), single(num(0)), missing())
	want(t, "RANK", fault(api.ENA), missing(), refer(single(api.Value{})))
	want(t, "RANK", num(1), missing(), single(api.Value{}))
	want(t, "RANK", num(1), single(text("3")), single(text("3")), single(text("1")))
	want(t, "RANK", fault(api.ENA), single(num(3)), line(text("3"), text("3")))
}

// P18.1: parts of the way, at and beside their bounds.
func TestPercentiles(t *testing.T) {
	l := just(6, 1, 2)
	for _, x := range []struct{ p, want float64 }{{0, 1}, {0.25, 1.5}, {0.5, 2}, {0.75, 4}, {1, 6}, {tiny, 1}, {math.Nextafter(1, 0), 2 + float64((1-0x1p-52)*4)}, {0.1, 1.2}, {0.3, 1.6}} {
		wantAt(t, "PERCENTILE", l, x.p, x.want, 0)
	}
	for _, p := range just(-tiny, -1, math.Nextafter(1, 2), 2, great) {
		wantAt(t, "PERCENTILE", l, p, 0, api.ENum)
		wantAt(t, "PERCENTILE", just(4), p, 0, api.ENum)
	}
	for _, p := range just(0, 0.5, 1) {
		wantAt(t, "PERCENTILE", just(4), p, 4, 0)
		wantAt(t, "PERCENTILE", just(4, 4, 4), p, 4, 0)
		wantAt(t, "PERCENTILE", nil, p, 0, api.ENum)
	}
	for q, x := range just(1, 1.5, 2, 4, 6) {
		wantAt(t, "QUARTILE", l, float64(q), x, 0)
		wantAt(t, "QUARTILE", l, float64(q)+0.9, x, 0)
		wantAt(t, "QUARTILE", nil, float64(q), 0, api.ENum)
	}
	for _, q := range just(-tiny, -1, 5, 5.5, 0x1p53) {
		wantAt(t, "QUARTILE", l, q, 0, api.ENum)
	}
	want(t, "PERCENTILE", num(1), numbers(6, 1, 2), missing())
	want(t, "QUARTILE", num(6), numbers(6, 1, 2), single(text("4")))
	// a difference that is no finite number
	wantAt(t, "PERCENTILE", just(-great, great), 0.5, 0, api.ENum)
	wantAt(t, "PERCENTILE", just(-great, great), 0, 0, api.ENum)
	wantAt(t, "PERCENTILE", just(-great, great), 1, great, 0)
	wantAt(t, "PERCENTILE", just(-1, 1), 0.5, 0, 0)
}

// P18.1: where a number stands among others, one of them or between them, at and beside the ends.
func TestPercentRank(t *testing.T) {
	l := just(8, 1, 3, 3, 4)
	for _, x := range []struct{ x, want float64 }{{1, 0}, {3, 0.25}, {4, 0.75}, {8, 1}, {2, 0.125}, {3.5, 0.625}, {5, 0.8125}, {6, 0.875}} {
		wantAt(t, "PERCENTRANK", l, x.x, x.want, 0)
	}
	for _, x := range just(math.Nextafter(1, 0), math.Nextafter(8, 9), 0, 9, -great, great) {
		wantAt(t, "PERCENTRANK", l, x, 0, api.ENA)
	}
	wantAt(t, "PERCENTRANK", just(5), 5, 1, 0)
	wantAt(t, "PERCENTRANK", just(5), math.Nextafter(5, 6), 0, api.ENA)
	wantAt(t, "PERCENTRANK", just(5), math.Nextafter(5, 4), 0, api.ENA)
	wantAt(t, "PERCENTRANK", just(5, 5), 5, 0, 0)
	wantAt(t, "PERCENTRANK", nil, 0, 0, api.ENA)
	wantAt(t, "PERCENTRANK", just(-great, great), 0, 0, 0)
	wantAt(t, "PERCENTRANK", just(-great, great), great/2, 0, api.ENum)
	want(t, "PERCENTRANK", num(0), numbers(0, 1), missing())
}

// P18.1: means without the ends.
func TestTrimMean(t *testing.T) {
	l := just(90, 1, 3, 2)
	for _, x := range []struct{ p, want float64 }{{0, 24}, {0.25, 24}, {math.Nextafter(0.5, 0), 24}, {0.5, 2.5}, {0.75, 2.5}, {math.Nextafter(1, 0), 2.5}, {tiny, 24}} {
		wantAt(t, "TRIMMEAN", l, x.p, x.want, 0)
	}
	for _, p := range just(1, math.Nextafter(1, 2), -tiny, -1, 2, great) {
		wantAt(t, "TRIMMEAN", l, p, 0, api.ENum)
		wantAt(t, "TRIMMEAN", just(1), p, 0, api.ENum)
	}
	wantAt(t, "TRIMMEAN", nil, 0, 0, api.ENum)
	wantAt(t, "TRIMMEAN", just(5), math.Nextafter(1, 0), 5, 0)
	wantAt(t, "TRIMMEAN", just(5, 7, 90), math.Nextafter(1, 0), 7, 0)
	// the numbers are put in order ahead of being added
	wantAt(t, "TRIMMEAN", just(1, 1e16, -1e16), 0, 0, 0)
	wantAt(t, "TRIMMEAN", just(great, great), 0, 0, api.ENum)
	for n := range 200 {
		var many []float64
		for i := range n + 1 {
			many = append(many, float64((i*7919)%(n+1)))
		}
		for _, p := range just(math.Nextafter(1, 0), 0.3, 2.0/float64(n+1), math.Nextafter(2.0/float64(n+1), 0)) {
			check(t, "TRIMMEAN", numbers(many...), single(num(p)))
		}
	}
}

// P18.1: how far a number is off a mean.
func TestStandardize(t *testing.T) {
	for _, x := range []struct{ x, m, s, want float64 }{{7, 3, 2, 2}, {1, 3, 2, -1}, {3, 3, 5, 0}, {0.3, 0.1, 0.1, (0.3 - 0.1) / float64(0.1)}, {0, tiny, great, 0}} {
		a := singles(values(x.x, x.m, x.s)...)
		check(t, "STANDARDIZE", a...)
		if x.x != 0.3 {
			want(t, "STANDARDIZE", num(x.want), a...)
		}
	}
	for _, s := range just(0, -tiny, -1, -great) {
		want(t, "STANDARDIZE", fault(api.ENum), singles(values(1, 2, s)...)...)
	}
	want(t, "STANDARDIZE", fault(api.ENum), singles(values(great, -great, 1)...)...)
	want(t, "STANDARDIZE", fault(api.ENum), singles(values(great, 0, 0.5)...)...)
	want(t, "STANDARDIZE", num(-2), missing(), single(text("2")), single(truth(true)))
}

// wantCounts asks how often numbers stand between bins.
func wantCounts(t *testing.T, a, bins api.Arg, l ...float64) {
	t.Helper()
	wantArray(t, "FREQUENCY", api.Arr{Rows: len(l), Cols: 1, Vals: values(l...)}, true, a, bins)
}

// P18.1: numbers between bins: the chapter's example, none, alike, out of order.
func TestFrequency(t *testing.T) {
	a := numbers(1, 2, 3, 9)
	wantCounts(t, a, numbers(2, 5), 2, 1, 1)
	wantCounts(t, a, numbers(5, 2), 2, 1, 1)
	wantCounts(t, a, line(num(5), num(2)), 2, 1, 1)
	wantCounts(t, a, numbers(2, 2, 2), 2, 0, 0, 2)
	wantCounts(t, a, numbers(9, 2, 5, 2), 2, 0, 1, 1, 0)
	wantCounts(t, a, numbers(math.Nextafter(2, 1), math.Nextafter(2, 3)), 1, 1, 2)
	wantCounts(t, a, numbers(10), 4, 0)
	wantCounts(t, a, numbers(0), 0, 4)
	wantCounts(t, a, missing(), 4)
	wantCounts(t, a, line(text("x"), truth(true)), 4)
	wantCounts(t, a, refer(single(api.Value{})), 4)
	wantCounts(t, a, single(api.Value{}), 0, 4)
	wantCounts(t, missing(), missing(), 0)
	wantCounts(t, wide(), numbers(1, 2), 0, 0, 0)
	wantCounts(t, numbers(3, 3, 3), numbers(3), 3, 0)
	wantCounts(t, single(text("3")), single(text("3")), 1, 0)
	wantCounts(t, column(num(3), text("3"), truth(true), api.Value{}, num(4)), numbers(3), 1, 1)
	wantCounts(t, numbers(-great, great, tiny, -tiny, 0), numbers(0), 3, 2)
	want(t, "FREQUENCY", fault(api.ENA), column(num(1), fault(api.ENA)), column(fault(api.ERef)))
	want(t, "FREQUENCY", fault(api.ERef), numbers(1), column(num(1), fault(api.ERef)))
}

// P18.1: as many bins as an answer has room for, and one more.
func TestManyBins(t *testing.T) {
	var bins, l, counts []float64
	for i := range api.MaxArea {
		bins = append(bins, float64((i*1009)%api.MaxArea))
		l = append(l, float64(i%10)-0.5)
	}
	bins = slices.DeleteFunc(bins, func(x float64) bool { return x == api.MaxArea-1 })
	for i := range api.MaxArea {
		n := 0.0
		for _, x := range l {
			if x <= float64(i) && x > float64(i-1) && i < len(bins) {
				n++
			}
		}
		counts = append(counts, n)
	}
	wantCounts(t, numbers(l...), numbers(bins...), counts...)
	want(t, "FREQUENCY", fault(api.ELimit), numbers(l...), numbers(append(bins, 7)...))
	want(t, "FREQUENCY", fault(api.ELimit), missing(), numbers(append(bins, bins...)...))
	want(t, "FREQUENCY", fault(api.ENA), single(fault(api.ENA)), numbers(append(bins, 7)...))
	// what counts is how many bins are numbers
	behind := append(values(bins...), text("x"), truth(true), text("7"))
	wantCounts(t, numbers(l...), column(behind...), counts...)
}

// P18.1: drawn numbers and bounds, held against the model.
func TestRanksDrawn(t *testing.T) {
	d := draws(3)
	names := strings.Fields("LARGE SMALL PERCENTILE QUARTILE PERCENTRANK TRIMMEAN RANK STANDARDIZE FREQUENCY")
	for range 8000 {
		name := pick(&d, names...)
		check(t, name, d.arguments(name)...)
	}
	for range 8000 {
		var l []float64
		for range 1 + d.below(9) {
			l = append(l, pick(&d, float64(d.below(5)), float64(d.below(500))/8, d.float()))
		}
		x := pick(&d, float64(d.below(7)), float64(d.below(101))/100, pick(&d, l...), (l[0]+l[len(l)-1])/2, d.float())
		if math.IsInf(x, 0) {
			continue
		}
		x += 0
		a := pick(&d, numbers(l...), line(values(l...)...))
		for _, name := range names {
			switch name {
			case "RANK":
				check(t, name, single(num(x)), a)
				check(t, name, single(num(x)), a, single(num(float64(d.below(3)))))
			case "STANDARDIZE":
			case "FREQUENCY":
				check(t, name, a, pick(&d, a, numbers(x, l[0], x), single(num(x))))
			default:
				check(t, name, a, single(num(x)))
			}
		}
	}
}
