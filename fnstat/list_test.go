package fnstat_test

import (
	"math"
	"slices"
	"strings"
	"testing"

	"gridiron/api"
	"gridiron/fnstat"
)

// some is a function of numbers, what it is asked of, and what it answers.
type some struct {
	name string
	l    []float64
	want float64
}

func wantSome(t *testing.T, l ...some) {
	t.Helper()
	for _, x := range l {
		want(t, x.name, num(x.want), numbers(x.l...))
		args := singles(values(x.l...)...)
		if len(args) <= api.MaxArgs {
			want(t, x.name, num(x.want), args...)
		}
	}
}

func wantFault(t *testing.T, name string, code int, l ...float64) {
	t.Helper()
	a := refer(block(1, append(values(l...), api.Value{})...))
	want(t, name, fault(code), a)
}

func wantFloat(t *testing.T, what string, got, want float64, l []float64) {
	t.Helper()
	if !sameNumber(got, want) {
		t.Errorf("%s of %v: %v, want %v", what, l, got, want)
	}
}

// P18.1: sums, means and squares of any floats.
func TestSums(t *testing.T) {
	for _, x := range []struct {
		l                 []float64
		sum, mean, square float64
	}{
		{nil, 0, 0, 0}, {just(), 0, 0, 0}, {just(5), 5, 5, 0}, {just(below0), 0, 0, 0}, {just(1, 2, 6), 9, 3, 14}, {just(1, 2), 3, 1.5, 0.5},
		{just(0.1, 0.2, 0.3), 0.6000000000000001, 0.20000000000000004, 0.019999999999999997}, {just(0.3, 0.2, 0.1), 0.6, 0.19999999999999998, 0.019999999999999997},
		{just(1e16, 1, -1e16), 0, 0, 2e32}, {just(1e16, -1e16, 1), 1, 1.0 / 3, 2e32},
		{just(great, great), most, most, most}, {just(great, great, -great), most, most, most}, {just(-great, -great), -most, -most, most}, {just(1e200), 1e200, 1e200, 0}, {just(1e200, 0), 1e200, 5e199, most},
		{just(nan), nan, nan, nan}, {just(1, nan, 2), nan, nan, nan}, {just(most), most, most, nan}, {just(most, 1), most, most, nan}, {just(most, -most), nan, nan, nan}, {just(-most, 1), -most, -most, nan},
		{just(tiny), tiny, tiny, 0}, {just(tiny, 0), tiny, 0, 0}, {just(-tiny, 0), -tiny, below0, 0}, {just(below0, below0), 0, 0, 0}, {just(1e-200, 0), 1e-200, 5e-201, 0},
	} {
		l := slices.Clone(x.l)
		wantFloat(t, "Sum", fnstat.Sum(l), x.sum, x.l)
		wantFloat(t, "Mean", fnstat.Mean(l), x.mean, x.l)
		wantFloat(t, "Square", fnstat.Square(l), x.square, x.l)
		if !slices.EqualFunc(l, x.l, sameNumber) {
			t.Errorf("%v has become %v", x.l, l)
		}
	}
}

// P18.1: drawn sums, squares of which each is rounded ahead of being added.
func TestSumsDrawn(t *testing.T) {
	d := draws(1)
	for range 20000 {
		var l []float64
		for range d.below(12) {
			l = append(l, pick(&d, d.float(), d.float(), float64(d.below(1<<30))/(1<<20), pick(&d, nan, most, -most, below0, d.float(), d.float(), d.float(), d.float())))
		}
		wantFloat(t, "Sum", fnstat.Sum(l), sumOf(l), l)
		wantFloat(t, "Mean", fnstat.Mean(l), meanOf(l), l)
		wantFloat(t, "Square", fnstat.Square(l), squareOf(l), l)
	}
}

// P18.1: the chapter's first example, and means and spreads by hand.
func TestMeans(t *testing.T) {
	wantSome(t,
		some{"AVERAGE", just(1, 2, 6), 3}, some{"VAR", just(1, 2, 6), 7}, some{"MEDIAN", just(1, 2, 6), 2},
		some{"AVERAGE", just(5), 5}, some{"AVERAGE", just(5, -5), 0}, some{"AVERAGE", just(0.1, 0.2, 0.3), 0.6000000000000001 / 3}, some{"AVERAGE", just(-tiny, 0), 0}, some{"AVERAGE", just(great), great},
		some{"AVERAGEA", just(1, 2, 6), 3}, some{"COUNT", just(1, 2, 6), 3}, some{"COUNTA", just(1, 2, 6), 3},
		some{"MAX", just(1, 6, 2), 6}, some{"MIN", just(2, 1, 6), 1}, some{"MAX", just(-3, -2), -2}, some{"MIN", just(3, 2), 2}, some{"MAX", just(0), 0}, some{"MAX", just(great, -great), great}, some{"MIN", just(great, -great), -great}, some{"MAXA", just(1, 6, 2), 6}, some{"MINA", just(2, 1, 6), 1}, some{"MAX", just(-tiny), -tiny},
		some{"DEVSQ", just(1, 2, 6), 14}, some{"DEVSQ", just(3), 0}, some{"AVEDEV", just(1, 2, 6), 2}, some{"AVEDEV", just(3), 0}, some{"AVEDEV", just(-1, 1), 1},
		some{"VARP", just(1, 2, 6), 14.0 / 3}, some{"VARP", just(3), 0}, some{"STDEV", just(1, 2, 6), math.Sqrt(7)}, some{"STDEVP", just(1, 2, 6), math.Sqrt(14.0 / 3)}, some{"STDEVP", just(4), 0}, some{"STDEV", just(2, 4), math.Sqrt2},
		some{"VARA", just(1, 2, 6), 7}, some{"VARPA", just(1, 2, 6), 14.0 / 3}, some{"STDEVA", just(1, 2, 6), math.Sqrt(7)}, some{"STDEVPA", just(1, 2, 6), math.Sqrt(14.0 / 3)},
		some{"HARMEAN", just(1, 2, 4), 3 / 1.75}, some{"HARMEAN", just(5), 5}, some{"HARMEAN", just(0.1, 0.2, 0.3), 3 / (1/0.1 + 1/0.2 + 1/0.3)}, some{"HARMEAN", just(tiny, 1), 0},
	)
	for name, code := range map[string]int{"AVERAGE": api.EDiv, "AVERAGEA": api.EDiv, "VARP": api.EDiv, "STDEVP": api.EDiv, "VARPA": api.EDiv, "STDEVPA": api.EDiv, "VAR": api.EDiv, "STDEV": api.EDiv, "VARA": api.EDiv, "STDEVA": api.EDiv, "DEVSQ": api.ENum, "AVEDEV": api.ENum, "MEDIAN": api.ENum, "HARMEAN": api.ENum, "MODE": api.ENA} {
		wantFault(t, name, code)
		want(t, name, fault(code), missing())
	}
	for _, name := range strings.Fields("VAR STDEV VARA STDEVA") {
		wantFault(t, name, api.EDiv, 5)
		want(t, name, fault(api.EDiv), single(num(5)), missing())
	}
	for _, name := range strings.Fields("MAX MIN MAXA MINA COUNT COUNTA") {
		want(t, name, num(0), missing(), wide())
	}
	for _, x := range just(0, -1, -tiny, -great) {
		wantFault(t, "HARMEAN", api.ENum, 1, x, 2)
	}
}

// P18.1: what comes to no finite number.
func TestTooGreat(t *testing.T) {
	for _, name := range strings.Fields("AVERAGE AVERAGEA DEVSQ AVEDEV VAR VARP STDEV STDEVP VARA VARPA STDEVA STDEVPA") {
		wantFault(t, name, api.ENum, great, great)
		wantFault(t, name, api.ENum, great, great, -great)
	}
	for _, name := range strings.Fields("DEVSQ VAR VARP STDEV STDEVP") {
		wantFault(t, name, api.ENum, 1e200, 0)
	}
	wantFault(t, "MEDIAN", api.ENum, great, great)
	wantFault(t, "MEDIAN", api.ENum, great, 0, great, great)
	wantSome(t, some{"MEDIAN", just(great, great, 1), great}, some{"MAX", just(great, great), great}, some{"AVEDEV", just(1e200, 0), 5e199}, some{"MODE", just(great, great), great})
}

// P18.1: medians and modes.
func TestMedianAndMode(t *testing.T) {
	wantSome(t,
		some{"MEDIAN", just(5), 5}, some{"MEDIAN", just(5, 1), 3}, some{"MEDIAN", just(9, 1, 5), 5}, some{"MEDIAN", just(9, 1, 5, 7), 6}, some{"MEDIAN", just(4, 4, 1, 9), 4}, some{"MEDIAN", just(0.1, 0.3), 0.2}, some{"MEDIAN", just(-tiny, 0), 0}, some{"MEDIAN", just(-1, 1), 0}, some{"MEDIAN", just(2, 2), 2}, some{"MEDIAN", just(-7, -3, -9), -7},
		some{"MODE", just(1, 2, 2), 2}, some{"MODE", just(3, 1, 1, 3), 3}, some{"MODE", just(1, 3, 3, 1), 1}, some{"MODE", just(5, 3, 1, 1, 3), 3}, some{"MODE", just(3, 1, 1, 3, 1), 1}, some{"MODE", just(0, 0), 0}, some{"MODE", just(2, 1, 1, 2, 3, 3), 2}, some{"MODE", just(1, 2, 3, 3, 2), 2}, some{"MODE", just(-1, 1, -1), -1},
	)
	wantFault(t, "MODE", api.ENA, 1)
	wantFault(t, "MODE", api.ENA, 1, 2, 6)
	wantFault(t, "MODE", api.ENA, 1, math.Nextafter(1, 2))
	wantFault(t, "MODE", api.ENA, 1, -1)
	want(t, "MODE", num(2), single(num(1)), numbers(2, 3), single(text("2")), single(truth(true)), numbers(2))
	want(t, "MODE", num(1), single(num(1)), numbers(2, 3), single(text("2")), single(truth(true)))
}

// P18.1: counts.
func TestCounts(t *testing.T) {
	mixed := block(2, num(1), text("2"), truth(true), api.Value{}, fault(api.ENA), text(""), text("x"), num(0))
	for _, a := range []api.Arg{mixed, refer(mixed)} {
		want(t, "COUNT", num(2), a)
		want(t, "COUNTA", num(7), a)
		want(t, "COUNTBLANK", num(2), a)
		want(t, "COUNT", num(5), a, a, single(text("2")))
	}
	for _, x := range []struct {
		v                        api.Value
		count, refers, is, blank float64
	}{
		{num(5), 1, 1, 1, 0}, {text("5"), 1, 0, 1, 0}, {text(" 5"), 0, 0, 1, 0}, {text("x"), 0, 0, 1, 0}, {text(""), 0, 0, 1, 1}, {truth(true), 1, 0, 1, 0}, {truth(false), 1, 0, 1, 0}, {api.Value{}, 1, 0, 0, 1}, {fault(api.ENA), 0, 0, 1, 0}, {text("1e999"), 0, 0, 1, 0}, {text(" "), 0, 0, 1, 0}, {num(0), 1, 1, 1, 0},
	} {
		want(t, "COUNT", num(x.count), single(x.v))
		want(t, "COUNT", num(x.refers), refer(single(x.v)))
		want(t, "COUNTA", num(x.is), single(x.v))
		want(t, "COUNTA", num(x.is), refer(single(x.v)))
		want(t, "COUNTBLANK", num(x.blank), single(x.v))
		want(t, "COUNTBLANK", num(x.blank), refer(single(x.v)))
	}
	want(t, "COUNT", num(1), missing(), single(num(1)), missing(), single(fault(api.EDiv)))
	want(t, "COUNTA", num(2), missing(), single(num(1)), missing(), single(fault(api.EDiv)))
	want(t, "COUNTBLANK", num(1), missing())
	want(t, "COUNTBLANK", num(1<<30), wide())
	want(t, "COUNTBLANK", num(1<<30-1), wide(at(1, 1, num(1)), at(1, 2, text(""))))
	want(t, "COUNT", num(1), wide(at(1, 1, num(1)), at(1, 2, text(""))), wide())
	want(t, "COUNTA", num(2), wide(at(1, 1, num(1)), at(1, 2, text(""))), wide())
}

// P18.1: lists of drawn arguments, held against the model; long ones, too.
func TestListsDrawn(t *testing.T) {
	d := draws(2)
	names := strings.Fields(arities()[[2]int{1, 32}])
	for range 8000 {
		name := pick(&d, names...)
		check(t, name, d.arguments(name)...)
	}
	for range 400 {
		args := []api.Arg{d.area(40, 3), d.area(1, 30)}
		for i := range args {
			args[i].Cells = slices.DeleteFunc(args[i].Cells, func(p api.Place) bool { return p.Val.Kind == api.VErr })
		}
		check(t, pick(&d, names...), args...)
	}
}
