package fnmath_test

import (
	"slices"
	"strings"
	"testing"

	"gridiron/api"
	"gridiron/fnmath"
)

// arities are the names of the functions by how many arguments they take.
func arities() map[[2]int]string {
	return map[[2]int]string{
		{0, 0}:  "RAND",
		{1, 1}:  "ABS SIGN INT EVEN ODD SQRT FACT FACTDOUBLE ROMAN ARABIC",
		{1, 2}:  "TRUNC ROUND ROUNDUP ROUNDDOWN CEILING FLOOR GESTEP DELTA",
		{2, 2}:  "MROUND MOD QUOTIENT POWER COMBIN COMBINA PERMUT PERMUTATIONA SUMX2MY2 SUMX2PY2 SUMXMY2 BITAND BITOR BITXOR BITLSHIFT BITRSHIFT DECIMAL RANDBETWEEN",
		{2, 3}:  "BASE",
		{4, 4}:  "SERIESSUM",
		{1, 32}: "GCD LCM MULTINOMIAL SUM PRODUCT SUMSQ SUMPRODUCT",
	}
}

// P17.1: the names, whole and rising; they are whose they were told.
func TestNames(t *testing.T) {
	var names []string
	for _, some := range arities() {
		names = append(names, strings.Fields(some)...)
	}
	slices.Sort(names)
	got := fnmath.Names()
	if !slices.Equal(got, names) || !slices.Equal(got, all()) || len(got) != 46 {
		t.Errorf("%d names: %v, want %v", len(got), got, names)
	}
	clear(got)
	if !slices.Equal(fnmath.Names(), names) {
		t.Error("Names has changed with what it told")
	}
}

// P17.1: how many arguments each takes.
func TestArity(t *testing.T) {
	for size, some := range arities() {
		for _, name := range strings.Fields(some) {
			if least, most, is := fnmath.Arity(name); least != size[0] || most != size[1] || !is {
				t.Errorf("Arity(%s): %d, %d, %v", name, least, most, is)
			}
		}
	}
}

// P17.1: what is no name of a function, whatever it is near to.
func TestNoNames(t *testing.T) {
	none := []string{"", " ", "SU", "SUMS", "AVERAGE", "IF", "LEN", "LOG", "SUM2", "ROUND.", "ЅUM", "\x00", "RAND()", "SUMX2", "COMBINAA", strings.Repeat("SUM", 10000), "S\xff"}
	for _, name := range all() {
		none = append(none, strings.ToLower(name), name[:1]+strings.ToLower(name[1:]), strings.ToLower(name[:1])+name[1:], " "+name, name+" ", name+"\x00", name+"()", "."+name)
	}
	for _, name := range none {
		if least, most, is := fnmath.Arity(name); least != 0 || most != 0 || is {
			t.Errorf("Arity(%.40q): %d, %d, %v", name, least, most, is)
		}
		for n := range 6 {
			wantNone(t, name, good("SUM", n)...)
		}
	}
	for _, name := range all() {
		for i := range len(name) {
			if cut := name[:i]; !slices.Contains(all(), cut) {
				wantNone(t, cut, good("SUM", 2)...)
			}
		}
	}
}

// P17.1: each function with each number of arguments.
func TestHowMany(t *testing.T) {
	for size, some := range arities() {
		for _, name := range strings.Fields(some) {
			for n := range 36 {
				args := good(name, n)
				if n < size[0] || n > size[1] {
					wantNone(t, name, args...)
				} else {
					check(t, name, args...)
				}
				// left out, they are as many
				for i := range args {
					args[i] = missing()
				}
				if n < size[0] || n > size[1] {
					wantNone(t, name, args...)
				} else {
					check(t, name, args...)
				}
			}
			wantNone(t, name, good(name, 1000)...)
		}
	}
}

// wrong are arguments that may not be.
func wrong() []api.Arg {
	out := []api.Arg{{}, {Rows: 1}, {Cols: 1}, {Rows: -1, Cols: -1}, {Rows: api.MaxRows + 1, Cols: 1}, {Rows: 1, Cols: api.MaxCols + 1}, {Miss: true}, {Miss: true, Rows: 2, Cols: 1}, {Miss: true, Rows: 1, Cols: 1, Cells: []api.Place{at(0, 0, num(1))}},
		{Rows: 1, Cols: 1, Cells: []api.Place{at(0, 0, api.Value{})}}, {Rows: 1, Cols: 1, Cells: []api.Place{at(0, 0, num(1)), at(0, 0, num(1))}}, {Rows: 1, Cols: 1, Cells: []api.Place{at(1, 0, num(1))}}, {Rows: 2, Cols: 1, Cells: []api.Place{at(1, 0, num(1)), at(0, 0, num(1))}}, {Rows: 1, Cols: 1, Cells: []api.Place{at(0, -1, num(1))}}}
	for _, v := range []api.Value{num(nan), num(most), num(-most), num(below0), text("\xff"), text(strings.Repeat("1", api.MaxText+1)), fault(0), fault(10), {Kind: 5}, {Kind: -1}, {Kind: api.VNum, Num: 1, Text: "1"}, {Kind: api.VText, Num: below0}, {Kind: api.VErr, Err: 7, Num: 1}, {Kind: api.VBool, Err: 1}} {
		out = append(out, api.Arg{Rows: 1, Cols: 1, Cells: []api.Place{at(0, 0, v)}}, api.Arg{Ref: true, Rows: 3, Cols: 1, Cells: []api.Place{at(0, 0, num(1)), at(2, 0, v)}})
	}
	return out
}

// P17.1: an argument that may not be, at each place, beside good ones and beside errors.
func TestWrongArguments(t *testing.T) {
	for size, some := range arities() {
		for _, name := range strings.Fields(some) {
			for n := size[0]; n <= min(size[1], 4) || n == size[1]; n++ {
				for i := range n {
					for _, a := range wrong() {
						args := good(name, n)
						args[i] = a
						wantNone(t, name, args...)
						args[0] = single(fault(api.ENA))
						args[i] = a
						wantNone(t, name, args...)
					}
				}
			}
		}
	}
}

// P17.1, the other way: arguments that may be are taken, however strange.
func TestStrangeArguments(t *testing.T) {
	for _, name := range all() {
		least, _, _ := fnmath.Arity(name)
		for _, a := range []api.Arg{{Miss: true, Ref: true, Rows: 1, Cols: 1}, {Ref: true, Rows: api.MaxRows, Cols: api.MaxCols}, {Rows: api.MaxRows, Cols: api.MaxCols, Cells: []api.Place{at(api.MaxRows-1, api.MaxCols-1, num(2))}}, {Rows: 1, Cols: 1}, {Rows: 1, Cols: 1, Cells: []api.Place{at(0, 0, text(strings.Repeat("1", api.MaxText)))}}} {
			check(t, name, slices.Repeat([]api.Arg{a}, least)...)
		}
	}
}
