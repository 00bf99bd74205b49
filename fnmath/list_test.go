package fnmath_test

import (
	"math"
	"strings"
	"testing"

	"gridiron/api"
)

// P17.1: sums and products from the left, one by one, by hand.
func TestSums(t *testing.T) {
	wantSome(t,
		some{"SUM", just(1, 2, 3), 6}, some{"SUM", just(0.1, 0.2, 0.3), 0.6000000000000001}, some{"SUM", just(0.3, 0.2, 0.1), 0.6}, some{"SUM", just(1e16, 1, -1e16), 0}, some{"SUM", just(1e16, -1e16, 1), 1}, some{"SUM", just(5, -5), 0}, some{"SUM", just(math.MaxFloat64), math.MaxFloat64},
		some{"PRODUCT", just(2, 3, 4), 24}, some{"PRODUCT", just(5), 5}, some{"PRODUCT", just(0, 5), 0}, some{"PRODUCT", just(0, -5), 0}, some{"PRODUCT", just(0.1, 0.2, 0.3), 0.006000000000000001}, some{"PRODUCT", just(0.3, 0.2, 0.1), 0.006}, some{"PRODUCT", just(1e-200, 1e-200, 1e300), 0}, some{"PRODUCT", just(1e-200, 1e300, 1e-200), 1e-100},
		some{"SUMSQ", just(3, 4), 25}, some{"SUMSQ", just(-3), 9}, some{"SUMSQ", just(0.1, 0.2, 0.3), 0.14}, some{"SUMSQ", just(0.1, 0.1, 0.3), 0.11},
		// each square is rounded ahead of the sum
		some{"SUMSQ", just(0x1p27, 0x1p27+1), 0x1p54 + (0x1p54 + 0x1p28)},
	)
	wantFault(t, "SUM", api.ENum, math.MaxFloat64, math.MaxFloat64)
	wantFault(t, "SUM", api.ENum, math.MaxFloat64, math.MaxFloat64, -math.MaxFloat64)
	wantFault(t, "SUM", api.ENum, -math.MaxFloat64, -math.MaxFloat64)
	wantFault(t, "PRODUCT", api.ENum, 1e200, 1e200)
	wantFault(t, "PRODUCT", api.ENum, 1e200, 1e200, 1e-200)
	wantFault(t, "PRODUCT", api.ENum, 1e200, 1e200, 0)
	wantFault(t, "SUMSQ", api.ENum, 1e200)
	none := []api.Arg{refer(block(2, text("4"), truth(true))), missing(), refer(single(api.Value{})), {Ref: true, Rows: api.MaxRows, Cols: api.MaxCols}}
	for _, name := range strings.Fields("SUM PRODUCT SUMSQ") {
		want(t, name, num(0), none...)
	}
}

// P17.1: lists of drawn arguments, one behind the other.
func TestListsDrawn(t *testing.T) {
	d := draws(5)
	names := strings.Fields("SUM PRODUCT SUMSQ GCD LCM MULTINOMIAL")
	for range 30000 {
		var args []api.Arg
		for range 1 + d.below(5) {
			args = append(args, d.argument())
		}
		check(t, pick(&d, names...), args...)
	}
	for range 300 {
		args := []api.Arg{d.area(100, 3), d.area(1, 50)}
		for i := range args {
			kept := args[i].Cells[:0]
			for _, p := range args[i].Cells {
				if p.Val.Kind == api.VNum {
					kept = append(kept, p)
				}
			}
			args[i].Cells = kept
		}
		check(t, pick(&d, names...), args...)
	}
}

// P17.1: SUMPRODUCT by hand.
func TestSumProduct(t *testing.T) {
	a, b := column(1, 2, 3), column(4, 5, 6)
	want(t, "SUMPRODUCT", num(32), a, b)
	want(t, "SUMPRODUCT", num(32), refer(a), b)
	want(t, "SUMPRODUCT", num(6), a)
	want(t, "SUMPRODUCT", num(78), a, b, a)
	want(t, "SUMPRODUCT", num(10), single(num(2)), refer(single(num(5))))
	// what is no number is 0, of a single value, too
	want(t, "SUMPRODUCT", num(0), single(text("2")), single(num(5)))
	want(t, "SUMPRODUCT", num(0), single(truth(true)), single(num(5)))
	want(t, "SUMPRODUCT", num(0), single(api.Value{}), single(num(5)))
	want(t, "SUMPRODUCT", num(4), block(1, num(1), text("2"), truth(true), api.Value{}), block(1, num(4), num(5), num(6), num(7)))
	want(t, "SUMPRODUCT", num(0), api.Arg{Ref: true, Rows: api.MaxRows, Cols: api.MaxCols}, api.Arg{Ref: true, Rows: api.MaxRows, Cols: api.MaxCols})
	last := at(api.MaxRows-1, api.MaxCols-1, num(3))
	want(t, "SUMPRODUCT", num(9), api.Arg{Rows: api.MaxRows, Cols: api.MaxCols, Cells: []api.Place{at(0, 1, num(5)), last}}, api.Arg{Rows: api.MaxRows, Cols: api.MaxCols, Cells: []api.Place{at(1, 0, num(5)), last}})
	// row by row, not column by column: the sum is another one
	want(t, "SUMPRODUCT", num(1), block(2, num(1e16), num(-1e16), num(1), num(0)))
	want(t, "SUMPRODUCT", num(0), block(2, num(1e16), num(1), num(-1e16), num(0)))
	// products from the first argument on
	want(t, "SUMPRODUCT", num(0.006000000000000001), singles(0.1, 0.2, 0.3)...)
	want(t, "SUMPRODUCT", num(0), singles(1e-200, 1e-200, 1e300)...)
	want(t, "SUMPRODUCT", fault(api.ENum), singles(1e200, 1e200, 0)...)
	want(t, "SUMPRODUCT", fault(api.ENum), single(num(1e200)), single(num(1e200)), single(api.Value{}))
	want(t, "SUMPRODUCT", num(0), single(num(1e200)), single(text("x")), single(num(1e200)))
	want(t, "SUMPRODUCT", fault(api.ENum), column(math.MaxFloat64, math.MaxFloat64))
}

// sized are areas of unlike sizes.
func sized() []api.Arg {
	var out []api.Arg
	for _, size := range [][2]int{{1, 1}, {2, 1}, {1, 2}, {2, 2}, {3, 1}, {4, 1}, {1, 4}, {api.MaxRows, 1}, {api.MaxRows, api.MaxCols}} {
		out = append(out, api.Arg{Ref: true, Rows: size[0], Cols: size[1], Cells: []api.Place{at(0, 0, num(3))}}, api.Arg{Rows: size[0], Cols: size[1], Cells: []api.Place{at(0, 0, fault(api.EDiv))}})
	}
	return append(out, missing())
}

// P17.1: areas of unlike sizes, and one left out, ahead of errors within them.
func TestUnlikeSizes(t *testing.T) {
	for i, a := range sized() {
		for j, b := range sized() {
			code := 0
			switch {
			case a.Miss || b.Miss || a.Rows != b.Rows || a.Cols != b.Cols:
				code = -1
			case i%2 == 1 || j%2 == 1:
				code = api.EDiv
			}
			for name, other := range map[string]int{"SUMPRODUCT": api.EValue, "SUMX2MY2": api.ENA, "SUMX2PY2": api.ENA, "SUMXMY2": api.ENA} {
				v := num(map[string]float64{"SUMPRODUCT": 9, "SUMX2PY2": 18}[name])
				if code < 0 {
					v = fault(other)
				} else if code > 0 {
					v = fault(code)
				}
				want(t, name, v, a, b)
				if name == "SUMPRODUCT" {
					check(t, name, a, b, a)
					check(t, name, a, a, b)
				}
			}
		}
	}
	want(t, "SUMPRODUCT", fault(api.EValue), missing())
	want(t, "SUMPRODUCT", fault(api.EValue), single(num(2)), single(num(2)), missing())
	// as many places, but laid otherwise
	want(t, "SUMPRODUCT", fault(api.EValue), block(2, num(1), num(2), num(3), num(4)), block(1, num(1), num(2), num(3), num(4)))
	want(t, "SUMXMY2", fault(api.ENA), block(2, num(1), num(2)), block(1, num(1), num(2)))
}

// P17.1: errors place by place, and at one place from the first argument on.
func TestErrorsAtPlaces(t *testing.T) {
	x, y := fault(api.ERef), fault(api.ENull)
	for _, name := range strings.Fields("SUMPRODUCT SUMX2MY2 SUMX2PY2 SUMXMY2") {
		want(t, name, x, block(2, num(1), num(2), x, num(3)), block(2, num(1), num(2), num(3), y))
		want(t, name, y, block(2, num(1), num(2), num(3), x), block(2, num(1), y, num(3), num(4)))
		want(t, name, x, block(1, x, num(1)), block(1, y, num(1)))
		want(t, name, y, block(1, api.Value{}, x), block(1, y, num(1)))
		want(t, name, x, block(1, x, num(1)), block(1, api.Value{}, y))
		want(t, name, y, block(1, num(1), text("x")), block(1, num(1), y))
		// column by column the other one would be the first
		want(t, name, y, block(2, num(1), num(1), x, num(1)), block(2, num(1), y, num(1), num(1)))
		want(t, name, x, block(1, num(1e300), x), block(1, num(1e300), num(1)))
	}
	want(t, "SUMPRODUCT", y, block(1, num(1), x), block(1, num(1), num(1)), block(1, y, num(1)))
}

// P17.1: sums of squares over pairs, by hand.
func TestPairs(t *testing.T) {
	a, b := column(2, 3, 9), column(6, 5, 11)
	want(t, "SUMX2MY2", num(-88), a, b)
	want(t, "SUMX2PY2", num(276), a, b)
	want(t, "SUMXMY2", num(24), a, refer(b))
	want(t, "SUMX2MY2", num(5), singles(3, 2)...)
	want(t, "SUMX2PY2", num(13), singles(3, 2)...)
	want(t, "SUMXMY2", num(1), singles(3, 2)...)
	// a place at which one is no number counts for nothing
	left := block(1, num(1), text("2"), truth(true), api.Value{}, num(5), num(6))
	right := block(1, num(2), num(7), num(7), num(7), text("1"), api.Value{})
	want(t, "SUMX2MY2", num(-3), left, right)
	want(t, "SUMX2PY2", num(5), left, right)
	want(t, "SUMXMY2", num(1), left, right)
	want(t, "SUMX2PY2", num(0), single(text("3")), single(num(2)))
	for _, name := range strings.Fields("SUMX2MY2 SUMX2PY2 SUMXMY2") {
		wantFault(t, name, api.ENum, 1e200, -1e200)
		want(t, name, num(0), block(1, num(1e200), api.Value{}), block(1, text("x"), num(1e200)))
	}
	// each square is rounded ahead of their sum
	x, y := 0x1p27+1, 0x1p27
	want(t, "SUMX2MY2", num(0x1p28), singles(x, y)...)
	want(t, "SUMX2PY2", num(0x1p55+0x1p28), singles(x, y)...)
	want(t, "SUMXMY2", num(0.009999999999999995), singles(0.3, 0.2)...)
}

// P17.1: areas of drawn values, to the last bit.
func TestAreasDrawn(t *testing.T) {
	d := draws(6)
	names := strings.Fields("SUMPRODUCT SUMX2MY2 SUMX2PY2 SUMXMY2")
	for range 20000 {
		rows, cols := 1+d.below(4), 1+d.below(3)
		name := pick(&d, names...)
		args := []api.Arg{d.area(rows, cols), d.area(rows, cols)}
		for name == "SUMPRODUCT" && d.yes() {
			args = append(args, d.area(rows, cols))
		}
		if d.below(20) == 0 {
			args[d.below(len(args))] = d.argument()
		}
		check(t, name, args[:min(len(args), 32)]...)
	}
}

// P17.1: SERIESSUM by hand.
func TestSeries(t *testing.T) {
	with := func(x, n, k float64, a api.Arg) []api.Arg { return append(singles(x, n, k), a) }
	series := func(v api.Value, x, n, k float64, a api.Arg) {
		t.Helper()
		want(t, "SERIESSUM", v, with(x, n, k, a)...)
	}
	series(num(17), 2, 0, 1, column(1, 2, 3))
	series(num(34), 2, 1, 1, refer(column(1, 2, 3)))
	series(num(2+8*2+32*3), 2, 1, 2, column(1, 2, 3))
	series(num(1+1+0.75), 2, 0, -1, column(1, 2, 3))
	series(num(6), 2, 1.9, 0.9, column(1, 2))
	series(num(6), 5, 0, 0, column(1, 2, 3))
	series(num(8), 2, 3, 9, single(num(1)))
	series(num(16), 2, 3, 9, single(text("2")))
	series(num(0), 2, 3, 9, single(api.Value{}))
	// texts, truths and empty places are no numbers: the powers go on without them
	series(num(1+4), 2, 0, 1, refer(block(1, num(1), text("7"), truth(true), api.Value{}, num(2))))
	// each product is rounded, and the sum from the left
	series(num(0.6000000000000001), 1, 0, 0, column(0.1, 0.2, 0.3))
	series(num(0), 1, 1, 1, column(1e16, 1, -1e16))
}

// P17.1: SERIESSUM with powers that are errors, and without numbers.
func TestSeriesErrors(t *testing.T) {
	x, zero := fault(api.ENum), single(num(0))
	for _, l := range []struct {
		x, n, k float64
		a       api.Arg
		want    api.Value
	}{
		{0, 0, 1, column(1, 2), x}, {0, -1, 1, column(1, 2), fault(api.EDiv)}, {0, 1, -1, column(1, 2), x}, {0, 1, -2, column(1, 2), fault(api.EDiv)}, {0, 1, 1, column(1, 2), num(0)},
		{2, 1024, 1, column(1, 2), x}, {2, 1023, 1, column(1, 2), x}, {1, 1024, 1, column(1), num(1)}, {1, 1024, 1, column(1, 2), x}, {1, 1025, 1, column(1), x}, {1, -1024, 1, column(1, 2), num(3)}, {1, -1025, 1, column(1), x},
		{0, 0, 1, column(0, 0), x}, {0, 0, 1, zero, x}, {0, -1, 1, zero, fault(api.EDiv)}, {0, 0, 1, single(api.Value{}), x},
		{0, 0, 1, missing(), num(0)}, {0, 0, 1, refer(single(api.Value{})), num(0)}, {0, -1, 1, refer(block(2, text("1"), truth(true))), num(0)},
		{1e300, 1, 0, column(1e300), x}, {1e200, 2, 0, column(0), x}, {10, 308, 0, column(5), x},
		{2, 0, 1, block(1, num(1), fault(api.ERef)), fault(api.ERef)}, {0, 0, 1, block(1, num(1), fault(api.ERef)), fault(api.ERef)}, {0, 0, 1, single(text("x")), fault(api.EValue)},
		{1, 0x1p53, -0x1p53, column(1, 1), x}, {0, 0x1p53, 0x1p53, column(1, 1), x}, {2, -0x1p53, 0x1p53, column(1, 1), x},
	} {
		want(t, "SERIESSUM", l.want, append(singles(l.x, l.n, l.k), l.a)...)
	}
	d := draws(7)
	for range 20000 {
		args := singles(pick(&d, d.float(), 2, 0, -1, 0.5, 1)+0, float64(d.below(9)-4), float64(d.below(9)-4))
		check(t, "SERIESSUM", append(args, d.argument())...)
		args[d.below(3)] = d.argument()
		check(t, "SERIESSUM", append(args, d.area(2, 3))...)
	}
}
