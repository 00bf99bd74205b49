package fnstat_test

import (
	"math"
	"strings"
	"testing"

	"gridiron/api"
)

// ofPairs are the functions of two areas.
func ofPairs() []string { return strings.Fields("COVAR CORREL PEARSON RSQ SLOPE INTERCEPT") }

// P18.1: the chapter's second example, and more by hand.
func TestPairs(t *testing.T) {
	y, x := numbers(1, 3, 5), numbers(0, 1, 2)
	for name, v := range map[string]float64{"SLOPE": 2, "INTERCEPT": 1, "COVAR": 4.0 / 3, "CORREL": 1, "PEARSON": 1, "RSQ": 1} {
		want(t, name, num(v), y, x)
	}
	want(t, "FORECAST", num(21), single(num(10)), y, x)
	want(t, "FORECAST", num(1), missing(), y, x)
	want(t, "FORECAST", num(3), single(truth(true)), y, x)
	want(t, "SLOPE", num(0.5), x, y)
	want(t, "INTERCEPT", num(-0.5), x, y)
	down := numbers(6, 4, 2)
	for name, v := range map[string]float64{"SLOPE": -2, "INTERCEPT": 6, "COVAR": -4.0 / 3, "CORREL": -1, "PEARSON": -1, "RSQ": 1} {
		want(t, name, num(v), down, x)
	}
	// by hand: d of 1, 2, 4 are off 7/3, e of 1, 3, 2 off 2
	a, b := numbers(1, 2, 4), numbers(1, 3, 2)
	m := 7.0 / 3
	together := float64((1-m)*-1) + float64((2-m)*1) + float64((4-m)*0)
	square := float64((1-m)*(1-m)) + float64((2-m)*(2-m)) + float64((4-m)*(4-m))
	r := together / math.Sqrt(float64(square*2))
	want(t, "COVAR", num(together/3), a, b)
	want(t, "CORREL", num(r), a, b)
	want(t, "PEARSON", num(r), a, b)
	want(t, "RSQ", num(r*r), a, b)
	want(t, "SLOPE", num(together/2), a, b)
	start := m - float64(together/2*2)
	want(t, "INTERCEPT", num(start), a, b)
	end := float64(together / 2 * 7)
	want(t, "FORECAST", num(start+end), single(num(7)), a, b)
	want(t, "SLOPE", num(together/square), b, a)
}

// P18.1: no pairs, one, and such that are all alike.
func TestFewPairs(t *testing.T) {
	none, one := line(text("1"), api.Value{}), line(num(3), text("x"))
	for _, name := range ofPairs() {
		want(t, name, fault(api.EDiv), none, none)
		want(t, name, fault(api.EDiv), none, one)
		want(t, name, fault(api.EDiv), missing(), missing())
		want(t, name, fault(api.EDiv), missing(), single(num(1)))
		want(t, name, fault(api.EDiv), single(text("1")), single(text("2")))
		want(t, name, fault(api.EDiv), wide(), wide())
		want(t, name, fault(api.EDiv), line(num(1), api.Value{}), line(api.Value{}, num(1)))
		if name != "COVAR" {
			want(t, name, fault(api.EDiv), one, one)
			want(t, name, fault(api.EDiv), single(num(3)), single(num(4)))
			want(t, name, fault(api.EDiv), numbers(1, 2, 3), numbers(5, 5, 5))
		}
	}
	want(t, "COVAR", num(0), one, one)
	want(t, "COVAR", num(0), single(num(3)), refer(single(num(4))))
	want(t, "COVAR", num(0), numbers(1, 2, 3), numbers(5, 5, 5))
	for _, name := range strings.Fields("CORREL PEARSON RSQ") {
		want(t, name, fault(api.EDiv), numbers(5, 5, 5), numbers(1, 2, 3))
	}
	want(t, "SLOPE", num(0), numbers(5, 5, 5), numbers(1, 2, 3))
	want(t, "INTERCEPT", num(5), numbers(5, 5, 5), numbers(1, 2, 3))
	want(t, "FORECAST", num(5), single(num(1e9)), numbers(5, 5, 5), numbers(1, 2, 3))
	want(t, "FORECAST", fault(api.EDiv), single(num(1)), none, none)
	want(t, "FORECAST", fault(api.EDiv), single(num(1)), numbers(1, 2, 3), numbers(5, 5, 5))
}

// P18.1: unlike sizes, ahead of errors within; as many places are not enough.
func TestUnlikeSizes(t *testing.T) {
	var l []api.Arg
	for _, size := range [][2]int{{1, 1}, {2, 1}, {1, 2}, {2, 2}, {4, 1}, {1, 4}, {api.MaxRows, 1}, {1, api.MaxCols}, {api.MaxRows, api.MaxCols}} {
		l = append(l, api.Arg{Ref: true, Rows: size[0], Cols: size[1], Cells: []api.Place{at(0, 0, fault(api.EDiv))}})
	}
	l = append(l, missing())
	for i, a := range l {
		for j, b := range l {
			if i == j || a.Rows == b.Rows && a.Cols == b.Cols {
				continue
			}
			for _, name := range ofPairs() {
				want(t, name, fault(api.ENA), a, b)
			}
			want(t, "FORECAST", fault(api.ENA), single(num(1)), a, b)
		}
	}
	for _, name := range ofPairs() {
		want(t, name, fault(api.EDiv), l[0], missing())
		want(t, name, fault(api.EDiv), missing(), l[0])
	}
}

// P18.1: errors in either area, at places at which the other one has nothing, too.
func TestErrorsInPairs(t *testing.T) {
	a, b := column(num(1), api.Value{}, fault(api.ERef), fault(api.ENull)), column(fault(api.ENA), num(2), api.Value{}, num(3))
	good := numbers(1, 2, 3, 4)
	for _, name := range ofPairs() {
		want(t, name, fault(api.ERef), a, b)
		want(t, name, fault(api.ENA), b, a)
		want(t, name, fault(api.ERef), a, good)
		want(t, name, fault(api.ERef), good, a)
		want(t, name, fault(api.ENA), good, b)
		want(t, name, fault(api.ENA), column(text("x"), text("y"), text("z"), api.Value{}), b)
	}
	want(t, "FORECAST", fault(api.ERef), single(num(1)), a, b)
	want(t, "FORECAST", fault(api.ENA), single(num(1)), good, b)
}

// P18.1: pairs are those of the places at which both have a number, wherever these are.
func TestPlacesOfPairs(t *testing.T) {
	y := block(2, num(1), text("9"), num(3), truth(true), api.Value{}, num(5), num(7), num(0))
	x := block(2, num(0), num(8), num(1), num(7), num(9), num(2), text("3"), api.Value{})
	for name, v := range map[string]float64{"SLOPE": 2, "INTERCEPT": 1, "COVAR": 4.0 / 3, "CORREL": 1, "PEARSON": 1, "RSQ": 1} {
		want(t, name, num(v), y, x)
		want(t, name, num(v), refer(y), x)
		want(t, name, num(v), y, refer(x))
	}
	far := func(l ...float64) api.Arg {
		return wide(at(0, 3, num(l[0])), at(1, 0, num(l[1])), at(5, 5, text("x")), at(api.MaxRows-1, api.MaxCols-1, num(l[2])))
	}
	want(t, "SLOPE", num(2), far(1, 3, 5), far(0, 1, 2))
	want(t, "SLOPE", num(2), wide(append(far(1, 3, 5).Cells[:2:2], at(2, 0, num(7)), at(api.MaxRows-1, api.MaxCols-1, num(5)))...), far(0, 1, 2))
	// a text that is a number is none at a place
	want(t, "SLOPE", fault(api.EDiv), column(text("1"), text("3")), numbers(0, 1))
	// sums go row by row
	check(t, "COVAR", block(2, num(1e8), num(1), num(-1e8), num(0)), block(2, num(1e8), num(1), num(1e8), num(0.5)))
}

// P18.1: what comes to no finite number.
func TestPairsTooGreat(t *testing.T) {
	for _, name := range ofPairs() {
		want(t, name, fault(api.ENum), numbers(great, great), numbers(1, 2))
		if name != "SLOPE" {
			want(t, name, fault(api.ENum), numbers(great, 1), numbers(great, 2))
		}
	}
	want(t, "SLOPE", fault(api.ENum), numbers(1e300, 0), numbers(1e-100, 0))
	want(t, "INTERCEPT", fault(api.ENum), numbers(1e300, 0), numbers(1e-100, 0))
	want(t, "COVAR", fault(api.ENum), numbers(1e200, 0), numbers(1e200, 0))
	want(t, "FORECAST", fault(api.ENum), single(num(1e300)), numbers(1e100, 0), numbers(1, 0))
	// squares that are 0, and such whose product is
	want(t, "CORREL", fault(api.EDiv), numbers(1e-200, 0), numbers(1, 2))
	want(t, "SLOPE", fault(api.EDiv), numbers(1, 2), numbers(1e-200, 0))
	want(t, "CORREL", fault(api.ENum), numbers(1e-100, 0), numbers(1e-100, 0))
	want(t, "RSQ", fault(api.ENum), numbers(1e-100, 0), numbers(1e-100, 0))
}

// P18.1: drawn areas of one size, with few places at which only one has a number.
func TestPairsDrawn(t *testing.T) {
	d := draws(4)
	names := append(ofPairs(), "FORECAST")
	for range 8000 {
		name := pick(&d, names...)
		check(t, name, d.arguments(name)...)
	}
	for range 3000 {
		rows, cols := 1+d.below(5), 1+d.below(3)
		a, b := d.area(rows, cols), d.area(rows, cols)
		for _, name := range ofPairs() {
			check(t, name, a, b)
		}
		check(t, "FORECAST", single(d.value()), a, b)
	}
}
