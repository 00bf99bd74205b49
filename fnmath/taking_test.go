package fnmath_test

import (
	"math"
	"strings"
	"testing"

	"gridiron/api"
	"gridiron/fnmath"
)

// kinds are arguments of each kind: left out, single values and areas of one place of each kind of value, not told, larger areas, references and others.
func kinds() []api.Arg {
	out := []api.Arg{missing()}
	list := []api.Value{num(0), num(1), num(2), num(3.5), num(-1), num(-0.5), num(16), num(40), num(1e300)}
	for _, v := range append(list, values()...) {
		out = append(out, single(v), refer(single(v)))
	}
	for _, a := range []api.Arg{
		block(2, num(1), num(2)), block(1, num(1), num(2)), block(2, num(1), text("2"), truth(true), api.Value{}), block(2, api.Value{}, api.Value{}), block(1, text("x"), text("3")),
		block(3, num(4), fault(api.ERef), fault(api.ENull)), block(1, fault(api.EDiv), num(1)), block(1, truth(true), fault(api.ENA)),
	} {
		out = append(out, a, refer(a))
	}
	return out
}

// R7: each kind of argument at each place of each function, with good ones beside it and with none behind.
func TestKinds(t *testing.T) {
	for _, name := range all() {
		least, most, _ := fnmath.Arity(name)
		for n := least; n <= min(most, 4); n++ {
			for i := range n {
				for _, a := range kinds() {
					args := good(name, n)
					args[i] = a
					check(t, name, args...)
				}
			}
		}
	}
}

// R7: each two kinds of arguments at two places: errors are told from the left.
func TestTwoKinds(t *testing.T) {
	l := kinds()
	for _, name := range all() {
		least, most, _ := fnmath.Arity(name)
		for n := max(least, 2); n <= min(most, 4); n++ {
			for i := range n {
				for j := range i {
					for k, a := range l {
						for m, b := range l {
							if n > 2 && (k+m)%3 > 0 {
								continue
							}
							args := good(name, n)
							args[j], args[i] = a, b
							check(t, name, args...)
						}
					}
				}
			}
		}
	}
}

// R7: errors at each argument, and at each two of them: the first one is the answer.
func TestErrors(t *testing.T) {
	for _, name := range all() {
		least, most, _ := fnmath.Arity(name)
		for n := max(least, 1); n <= min(most, 4) || n == most; n++ {
			for i := range n {
				for code := 1; code <= 9; code++ {
					args := good(name, n)
					args[i] = single(fault(code))
					want(t, name, fault(code), args...)
					args[i].Ref = true
					want(t, name, fault(code), args...)
					for j := range i {
						args[j] = single(fault(code%9 + 1))
						want(t, name, fault(code%9+1), args...)
						args[j] = good(name, n)[j]
					}
				}
			}
		}
	}
}

// R7: errors that come from taking an argument stand in the same row.
func TestErrorsOfTaking(t *testing.T) {
	x, na := single(text("x")), single(fault(api.ENA))
	wide, far := block(1, num(1), num(2)), single(num(0x1p53+2))
	for _, name := range []string{"ROUND", "TRUNC", "ROUNDUP", "ROUNDDOWN"} {
		want(t, name, fault(api.EValue), x, na)
		want(t, name, fault(api.EValue), x, far)
		want(t, name, fault(api.EValue), wide, na)
		want(t, name, fault(api.ENA), single(num(1)), na)
		want(t, name, fault(api.ENum), single(num(1)), far)
		want(t, name, fault(api.ENum), single(num(1)), single(num(-0x1p53-2)))
		want(t, name, fault(api.EValue), single(num(1)), wide)
		want(t, name, num(1), single(num(1)), single(num(0x1p53)))
	}
	for _, name := range strings.Fields("COMBIN COMBINA PERMUT PERMUTATIONA BITAND BITOR BITXOR BITLSHIFT BITRSHIFT RANDBETWEEN BASE") {
		want(t, name, fault(api.ENum), far, na)
		want(t, name, fault(api.EValue), x, far)
		want(t, name, fault(api.EValue), wide, far)
		want(t, name, fault(api.ENA), na, far)
		want(t, name, fault(api.ENA), single(num(-1)), na)
		want(t, name, fault(api.EValue), single(num(-1)), x)
	}
	want(t, "ROMAN", fault(api.ENum), far)
	want(t, "ROMAN", fault(api.EValue), single(num(0x1p53)))
	want(t, "DECIMAL", fault(api.EValue), wide, far)
	want(t, "DECIMAL", fault(api.ENum), x, far)
	want(t, "DECIMAL", fault(api.ENum), single(text("?")), single(num(37)))
	want(t, "BASE", fault(api.ENA), single(num(-1)), single(num(99)), na)
	want(t, "SERIESSUM", fault(api.ENum), single(num(1)), far, x, na)
	want(t, "SERIESSUM", fault(api.EValue), single(num(1)), single(num(1)), x, na)
	want(t, "SERIESSUM", fault(api.ENA), single(num(0)), single(num(0)), single(num(1)), block(1, num(1), fault(api.ENA)))
	want(t, "MOD", fault(api.EValue), x, single(num(0)))
	want(t, "MOD", fault(api.EValue), wide, single(num(0)))
}

// R7: a whole number is cut off to what is not above it.
func TestWholes(t *testing.T) {
	for _, x := range []struct{ x, want float64 }{{3, 6}, {3.999, 6}, {math.Nextafter(4, 0), 6}, {4, 24}, {0.5, 1}, {0, 1}} {
		want(t, "FACT", num(x.want), single(num(x.x)))
	}
	want(t, "FACT", fault(api.ENum), single(num(-math.SmallestNonzeroFloat64)))
	want(t, "FACTDOUBLE", num(1), single(num(-0.5)))
	want(t, "FACTDOUBLE", fault(api.ENum), single(num(-1.5)))
	want(t, "ROUND", num(12), single(num(12.34)), single(num(0.9)))
	want(t, "ROUND", num(10), single(num(12.34)), single(num(-0.1)))
	want(t, "BITLSHIFT", num(1), single(num(3.9)), single(num(-0.1)))
	want(t, "BASE", text("007"), single(num(7.9)), single(num(10.9)), single(num(3.9)))
	want(t, "RANDBETWEEN", num(-2), single(num(-1.5)), single(num(-1.1)))
	want(t, "RANDBETWEEN", fault(api.ENum), single(num(1)), single(num(0.9)))
}

// R7: what single values are as numbers, as whole numbers and as texts.
func TestSingles(t *testing.T) {
	for _, x := range []struct {
		v    api.Value
		want api.Value
	}{
		{num(-2.5), num(2.5)}, {text("-2.5"), num(2.5)}, {text("1e3"), num(1000)}, {truth(true), num(1)}, {truth(false), num(0)}, {api.Value{}, num(0)}, {text(""), fault(3)}, {text(" 1"), fault(3)}, {text("x"), fault(3)}, {text("1e999"), fault(3)}, {text("TRUE"), fault(3)}, {fault(8), fault(8)},
	} {
		want(t, "ABS", x.want, single(x.v))
		want(t, "ABS", x.want, refer(single(x.v)))
	}
	want(t, "ABS", num(0), missing())
	want(t, "ABS", fault(3), block(2, num(1), num(1)))
	want(t, "ABS", fault(3), block(1, fault(7), fault(7)))
	want(t, "DECIMAL", num(101), single(num(101)), single(num(10)))
	want(t, "DECIMAL", num(5), single(num(101)), single(text("2")))
	want(t, "DECIMAL", num(0x1e21), single(num(1e21)), single(num(16)))
	want(t, "DECIMAL", fault(3), single(num(1.5)), single(num(10)))
	want(t, "DECIMAL", num(29*46656+27*1296+30*36+14), single(truth(true)), single(num(36)))
	want(t, "DECIMAL", fault(3), single(api.Value{}), single(num(10)))
	want(t, "DECIMAL", fault(3), missing(), single(num(10)))
	want(t, "DECIMAL", fault(6), single(text("1")), missing())
	want(t, "ARABIC", num(0), missing())
	want(t, "ARABIC", num(0), single(api.Value{}))
	want(t, "ARABIC", fault(3), single(num(1)))
	want(t, "ARABIC", fault(3), block(1, text("I"), text("I")))
}

// P17.1: each argument in [ ]: away, left out, empty, of a reference that is empty, and there; of a larger area it is none.
func TestMayBeAway(t *testing.T) {
	for _, x := range []struct {
		name string
		args []api.Arg
		away api.Value
		some float64
		want api.Value
	}{
		{"TRUNC", singles(-2.57), num(-2), 1, num(-2.5)}, {"ROUND", singles(2.57), num(3), 1, num(2.6)}, {"ROUNDUP", singles(2.51), num(3), 1, num(2.6)}, {"ROUNDDOWN", singles(2.57), num(2), 1, num(2.5)},
		{"CEILING", singles(2.5), num(3), 2, num(4)}, {"FLOOR", singles(3.5), num(3), 2, num(2)}, {"CEILING", singles(-2.5), num(-2), 0, num(0)}, {"FLOOR", singles(2.5), num(2), 0, num(0)},
		{"GESTEP", singles(0), num(1), 1, num(0)}, {"GESTEP", singles(-1), num(0), -1, num(1)}, {"DELTA", singles(0), num(1), 1, num(0)}, {"DELTA", singles(2), num(0), 2, num(1)},
		{"BASE", singles(5, 2), text("101"), 4, text("0101")},
	} {
		want(t, x.name, x.away, x.args...)
		for _, a := range []api.Arg{missing(), single(api.Value{}), refer(single(api.Value{})), {Miss: true, Ref: true, Rows: 1, Cols: 1}} {
			want(t, x.name, x.away, append(x.args[:len(x.args):len(x.args)], a)...)
		}
		for _, v := range []api.Value{num(x.some), text(upper(told10(x.some)))} {
			want(t, x.name, x.want, append(x.args[:len(x.args):len(x.args)], single(v))...)
		}
		for _, a := range []api.Arg{block(1, num(1), num(1)), block(2, api.Value{}, api.Value{}), refer(block(2, api.Value{}, num(1))), single(text(""))} {
			want(t, x.name, fault(api.EValue), append(x.args[:len(x.args):len(x.args)], a)...)
		}
	}
	// others are empty, if they are left out
	want(t, "MROUND", num(0), single(num(5)), missing())
	want(t, "MOD", fault(api.EDiv), single(num(5)), missing())
	want(t, "COMBIN", num(1), single(num(5)), missing())
	want(t, "BASE", fault(api.ENum), single(num(5)), missing())
	want(t, "BASE", text("0"), missing(), single(num(2)))
	want(t, "POWER", num(1), single(num(5)), missing())
	want(t, "BITOR", num(5), single(num(5)), missing())
	want(t, "RANDBETWEEN", num(-2), single(num(-5)), missing())
}

// told10 are the digits of a small whole number.
func told10(x float64) string {
	if x < 0 {
		return "-" + string(rune('0'-int(x)))
	}
	return string(rune('0' + int(x)))
}

// R7: the numbers of lists.
func TestNumbersOfLists(t *testing.T) {
	mixed := block(2, num(1), text("2"), truth(true), api.Value{}, num(5), text("x"))
	want(t, "SUM", num(6), mixed)
	want(t, "SUM", num(6), refer(mixed))
	want(t, "SUM", num(1), refer(single(num(1))))
	for _, v := range []api.Value{text("2"), text("x"), truth(true), {}} {
		want(t, "SUM", num(0), refer(single(v)))
	}
	want(t, "SUM", num(3), single(num(1)), single(text("2")))
	want(t, "SUM", num(2), single(num(1)), single(truth(true)))
	want(t, "SUM", num(1), single(num(1)), single(api.Value{}))
	want(t, "SUM", fault(api.EValue), single(num(1)), single(text("x")))
	want(t, "SUM", num(1), single(num(1)), missing())
	want(t, "SUM", num(0), missing())
	want(t, "SUM", num(1), missing(), single(num(1)), missing())
	// what is left out is no factor, what is empty is 0
	want(t, "PRODUCT", num(2), missing(), single(num(2)), missing())
	want(t, "PRODUCT", num(0), single(api.Value{}), single(num(2)))
	want(t, "PRODUCT", num(2), refer(single(api.Value{})), single(num(2)))
	want(t, "PRODUCT", num(0), missing())
	want(t, "PRODUCT", num(0), refer(block(2, text("2"), truth(true))))
	want(t, "LCM", num(1), missing())
	want(t, "LCM", num(0), single(api.Value{}), single(num(3)))
	want(t, "LCM", num(3), missing(), single(num(3)))
	// errors from the left, argument by argument and place by place
	errors := refer(block(2, num(1), fault(api.ERef), fault(api.ENA), num(2)))
	want(t, "SUM", fault(api.ERef), single(num(1)), errors, single(text("x")))
	want(t, "SUM", fault(api.EValue), single(text("x")), errors)
	want(t, "GCD", fault(api.ERef), single(num(-1)), errors)
}
