package fnstat_test

import (
	"slices"
	"strings"
	"testing"

	"gridiron/api"
	"gridiron/fnstat"
)

// kinds are arguments of each kind: left out, single values and areas of one place of each kind of value, not told, larger areas, references and others.
func kinds() []api.Arg {
	out := []api.Arg{missing(), {Miss: true, Ref: true, Rows: 1, Cols: 1}}
	for _, v := range append(values(0, 1, 2, 0.5, 1.5, -1, 4, 5, 1e300), others()...) {
		out = append(out, single(v), refer(single(v)))
	}
	for _, a := range []api.Arg{
		block(2, num(1), num(2)), block(1, num(1), num(2)), block(2, num(1), text("2"), truth(true), api.Value{}), block(2, api.Value{}, api.Value{}), block(1, text("x"), text("3")), block(1, truth(false), text("")),
		block(3, num(4), fault(api.ERef), fault(api.ENull)), block(1, fault(api.EDiv), num(1)), block(1, truth(true), fault(api.ENA)),
	} {
		out = append(out, a, refer(a))
	}
	return out
}

// R7: each kind of argument at each place of each function, beside good ones.
func TestKinds(t *testing.T) {
	for _, name := range all() {
		least, most := arity(name)
		for n := least; n <= min(most, 5); n++ {
			for i := range n {
				for _, a := range kinds() {
					args := good(n)
					args[i] = a
					check(t, name, args...)
				}
			}
		}
	}
}

// R7: each two kinds of arguments at two places: errors are told from the left.
func TestTwoKinds(t *testing.T) {
	l := kinds()
	for _, name := range all() {
		least, most := arity(name)
		for n := max(least, 2); n <= min(most, 4); n++ {
			for i := range n {
				for j := range i {
					for k, a := range l {
						for m, b := range l {
							if (k+m+i+j)%97 > 0 {
								continue
							}
							args := good(n)
							args[j], args[i] = a, b
							check(t, name, args...)
						}
					}
				}
			}
		}
	}
}

// unmoved are the functions whose answer is not the first error among single values: they count, or ask errors, too, whether they meet.
func unmoved() []string {
	return strings.Fields("COUNT COUNTA COUNTBLANK COUNTIF SUMIF AVERAGEIF COUNTIFS SUMIFS AVERAGEIFS MAXIFS MINIFS")
}

// R7: errors at each argument, and at each two of them: the first one is the answer.
func TestErrors(t *testing.T) {
	for _, name := range all() {
		if slices.Contains(unmoved(), name) {
			continue
		}
		least, most := arity(name)
		for n := least; n <= min(most, 4) || n == most; n++ {
			for i := range n {
				for code := 1; code <= 9; code++ {
					args := good(n)
					args[i] = single(fault(code))
					want(t, name, fault(code), args...)
					args[i].Ref = true
					want(t, name, fault(code), args...)
					for j := range i {
						args[j] = single(fault(code%9 + 1))
						want(t, name, fault(code%9+1), args...)
						args[j] = good(n)[j]
					}
				}
			}
		}
	}
}

// R7: errors that come from taking an argument stand in the same row, ahead of what a line says.
func TestErrorsOfTaking(t *testing.T) {
	x, na, far := single(text("x")), single(fault(api.ENA)), single(num(0x1p53+2))
	two, none := numbers(1, 2), line(text("a"), text("b"))
	for _, name := range strings.Fields("LARGE SMALL QUARTILE") {
		want(t, name, fault(api.EValue), x, na)
		want(t, name, fault(api.EValue), two, x)
		want(t, name, fault(api.EValue), none, x)
		want(t, name, fault(api.EValue), none, two)
		want(t, name, fault(api.ENA), none, na)
		want(t, name, fault(api.ENum), two, far)
		want(t, name, fault(api.ENum), two, single(num(-0x1p53-2)))
		want(t, name, fault(api.ENA), column(num(1), fault(api.ENA)), far)
	}
	for _, name := range strings.Fields("PERCENTILE PERCENTRANK TRIMMEAN") {
		want(t, name, fault(api.EValue), none, x)
		want(t, name, fault(api.ERef), none, single(fault(api.ERef)))
		want(t, name, fault(api.ENull), column(num(1), fault(api.ENull)), x)
	}
	want(t, "RANK", fault(api.EValue), two, na, na)
	want(t, "RANK", fault(api.EValue), x, na, na)
	want(t, "RANK", fault(api.ENA), single(num(7)), column(fault(api.ENA), fault(api.ERef)), x)
	want(t, "RANK", fault(api.EValue), single(num(7)), two, x)
	want(t, "RANK", fault(api.ERef), single(num(7)), two, single(fault(api.ERef)))
	want(t, "RANK", fault(api.ENA), single(num(7)), two, single(num(0)))
	want(t, "STANDARDIZE", fault(api.EValue), single(num(1)), two, single(num(0)))
	want(t, "STANDARDIZE", fault(api.EValue), single(num(1)), single(num(1)), x)
	want(t, "STANDARDIZE", fault(api.ENum), single(num(1)), single(num(1)), missing())
	want(t, "FORECAST", fault(api.EValue), x, two, numbers(1, 2, 3))
	want(t, "FORECAST", fault(api.EValue), two, na, na)
	want(t, "FORECAST", fault(api.ENA), single(num(1)), column(fault(api.ERef), num(1)), numbers(1, 2, 3))
	want(t, "FREQUENCY", fault(api.EValue), x, na)
	want(t, "FREQUENCY", fault(api.ENA), two, na)
}

// wantNumbers asks for the numbers of an argument, with all and without.
func wantNumbers(t *testing.T, a api.Arg, all bool, code int, l ...float64) {
	t.Helper()
	got, wrong := fnstat.Numbers(a, all)
	if wrong != code || !slices.EqualFunc(got, l, sameNumber) {
		t.Errorf("Numbers of %s, %v: %v, %d, want %v, %d", told([]api.Arg{a}), all, got, wrong, l, code)
	}
}

// P18.1: the numbers of an argument.
func TestNumbers(t *testing.T) {
	mixed := block(2, num(1), text("2"), truth(true), api.Value{}, num(-5.5), text(""), truth(false), text("x"), num(0), num(1))
	for _, a := range []api.Arg{mixed, refer(mixed)} {
		wantNumbers(t, a, false, 0, 1, -5.5, 0, 1)
		wantNumbers(t, a, true, 0, 1, 0, 1, -5.5, 0, 0, 0, 0, 1)
	}
	for _, all := range []bool{false, true} {
		wantNumbers(t, missing(), all, 0)
		wantNumbers(t, api.Arg{Miss: true, Ref: true, Rows: 1, Cols: 1}, all, 0)
		wantNumbers(t, single(num(3)), all, 0, 3)
		wantNumbers(t, refer(single(num(3))), all, 0, 3)
		wantNumbers(t, single(text("3")), all, 0, 3)
		wantNumbers(t, single(text("-0")), all, 0, 0)
		wantNumbers(t, single(text("x")), all, api.EValue)
		wantNumbers(t, single(text("")), all, api.EValue)
		wantNumbers(t, single(text("1e999")), all, api.EValue)
		wantNumbers(t, single(truth(true)), all, 0, 1)
		wantNumbers(t, single(truth(false)), all, 0, 0)
		wantNumbers(t, single(api.Value{}), all, 0, 0)
		wantNumbers(t, refer(single(api.Value{})), all, 0)
		wantNumbers(t, wide(), all, 0)
		wantNumbers(t, api.Arg{Rows: api.MaxRows, Cols: api.MaxCols}, all, 0)
		wantNumbers(t, wide(at(0, 5, num(1)), at(1, 0, num(2)), at(api.MaxRows-1, api.MaxCols-1, num(3))), all, 0, 1, 2, 3)
		for code := 1; code <= 9; code++ {
			wantNumbers(t, single(fault(code)), all, code)
			wantNumbers(t, refer(single(fault(code))), all, code)
			wantNumbers(t, block(1, num(1), text("x"), fault(code), fault(code%9+1), num(2)), all, code)
			wantNumbers(t, column(fault(code), num(2), fault(code%9+1)), all, code)
			wantNumbers(t, wide(at(7, 7, num(1)), at(9, 0, fault(code))), all, code)
		}
		for _, a := range wrong() {
			wantNumbers(t, a, all, api.EValue)
		}
		// an error among values that may not be is none
		wantNumbers(t, column(fault(api.ENA), num(nan)), all, api.EValue)
	}
	wantNumbers(t, refer(single(text("3"))), false, 0)
	wantNumbers(t, refer(single(text("3"))), true, 0, 0)
	wantNumbers(t, refer(single(truth(true))), false, 0)
	wantNumbers(t, refer(single(truth(true))), true, 0, 1)
	wantNumbers(t, refer(single(truth(false))), true, 0, 0)
}

// P18.1: the numbers of several arguments, one behind the other, and the first error among them.
func TestSeveral(t *testing.T) {
	mixed := column(num(4), text("7"), truth(true), api.Value{})
	want(t, "AVERAGE", num(4), mixed)
	want(t, "AVERAGEA", num(5.0/3), mixed)
	want(t, "AVERAGE", num(2.5), mixed, single(text("1")))
	want(t, "AVERAGE", num(2.5), single(truth(true)), mixed, missing())
	want(t, "AVERAGE", num(2), mixed, single(api.Value{}), missing())
	want(t, "AVERAGEA", num(1.5), mixed, single(truth(true)))
	want(t, "AVERAGEA", fault(api.EValue), mixed, single(text("x")))
	want(t, "AVERAGE", fault(api.EDiv), missing())
	want(t, "AVERAGE", fault(api.EDiv), missing(), line(text("1"), truth(true)), refer(single(api.Value{})))
	want(t, "AVERAGEA", num(0.5), missing(), line(text("1"), truth(true)), refer(single(api.Value{})))
	want(t, "MAX", num(0), missing())
	want(t, "MAX", num(-1), missing(), single(num(-1)))
	want(t, "MAX", num(0), single(api.Value{}), single(num(-1)))
	want(t, "MAX", num(-1), column(text("5"), num(-1)))
	want(t, "MAXA", num(0), column(text("5"), num(-1)))
	want(t, "MINA", num(0), column(text("5"), num(1)))
	want(t, "MINA", num(1), column(truth(true), num(3)))
	want(t, "MIN", num(3), column(truth(true), num(3)))
	want(t, "VARA", num(0.5), column(truth(true), text("x")))
	want(t, "VAR", fault(api.EDiv), column(truth(true), text("x"), num(1)))
	errors := column(num(1), fault(api.ERef), fault(api.ENA))
	want(t, "MAX", fault(api.ERef), single(num(1)), errors, single(text("x")))
	want(t, "MAX", fault(api.EValue), single(text("x")), errors)
	// a sum goes through the arguments from the left, not through their sums
	want(t, "AVERAGE", num(0), numbers(1e16, 1), numbers(-1e16))
	want(t, "AVERAGE", num(1.0/3), numbers(1e16, -1e16), numbers(1))
	want(t, "AVERAGE", num(0), numbers(1e16), numbers(1, -1e16))
}

// R7: what is optional: away, left out, empty, and there.
func TestMayBeAway(t *testing.T) {
	l := numbers(1, 2, 4, 4)
	for _, rest := range [][]api.Arg{{}, {missing()}, {single(api.Value{})}, {refer(single(api.Value{}))}, {single(num(0))}, {single(text("0"))}, {single(truth(false))}} {
		want(t, "RANK", num(4), append([]api.Arg{single(num(1)), l}, rest...)...)
		want(t, "RANK", num(1), append([]api.Arg{single(num(4)), l}, rest...)...)
	}
	for _, v := range []api.Value{num(1), num(-1), num(0.1), num(tiny), text("1"), truth(true)} {
		want(t, "RANK", num(1), single(num(1)), l, single(v))
		want(t, "RANK", num(3), single(num(4)), l, single(v))
	}
	want(t, "RANK", fault(api.EValue), single(num(1)), l, numbers(1, 1))
	c := single(text(">1"))
	want(t, "SUMIF", num(10), l, c)
	want(t, "SUMIF", num(10), l, c, missing())
	want(t, "AVERAGEIF", num(10.0/3), l, c, missing())
	// one that is empty is there
	want(t, "SUMIF", num(0), l, c, single(api.Value{}))
	want(t, "SUMIF", num(0), l, c, refer(single(api.Value{})))
	want(t, "AVERAGEIF", fault(api.EDiv), l, c, single(api.Value{}))
}
