package fnstat_test

import (
	"slices"
	"strings"
	"testing"

	"gridiron/api"
	"gridiron/fnstat"
)

// P18.1: the names, whole and rising; they are whose they were told.
func TestNames(t *testing.T) {
	got := fnstat.Names()
	if !slices.Equal(got, all()) || len(got) != 46 || len(slices.Compact(all())) != 46 || !slices.IsSorted(got) {
		t.Errorf("%d names: %v, want %v", len(got), got, all())
	}
	clear(got)
	if !slices.Equal(fnstat.Names(), all()) {
		t.Error("Names has changed with what it told")
	}
}

// P18.1: how many arguments each takes.
func TestArity(t *testing.T) {
	for size, some := range arities() {
		for _, name := range strings.Fields(some) {
			if least, most, is := fnstat.Arity(name); least != size[0] || most != size[1] || !is {
				t.Errorf("Arity(%s): %d, %d, %v", name, least, most, is)
			}
		}
	}
}

// P18.1: what is no name of a function, whatever it is near to.
func TestNoNames(t *testing.T) {
	none := []string{"", " ", "SUM", "PRODUCT", "IF", "LEN", "LOOKUP", "VARS", "AVERAGEIFSS", "MAXIF", "MINIF", "COUNTAS", "ΜAX", "\x00", "MAX()", "MODEA", "MEDIANA", strings.Repeat("MAX", 10000), "MA\xff"}
	for _, name := range all() {
		none = append(none, strings.ToLower(name), name[:1]+strings.ToLower(name[1:]), strings.ToLower(name[:1])+name[1:], " "+name, name+" ", name+"\x00", name+"()", "."+name)
		for i := range len(name) {
			if cut := name[:i]; !slices.Contains(all(), cut) {
				none = append(none, cut)
			}
		}
	}
	for _, name := range none {
		if least, most, is := fnstat.Arity(name); least != 0 || most != 0 || is {
			t.Errorf("Arity(%.40q): %d, %d, %v", name, least, most, is)
		}
		for n := range 5 {
			wantNone(t, name, good(n)...)
		}
	}
}

// P18.1: each function with each number of arguments.
func TestHowMany(t *testing.T) {
	for _, name := range all() {
		least, most := arity(name)
		for n := range 36 {
			args := good(n)
			out := slices.Repeat([]api.Arg{missing()}, n)
			if n < least || n > most {
				wantNone(t, name, args...)
				wantNone(t, name, out...)
				continue
			}
			check(t, name, args...)
			check(t, name, out...)
		}
		wantNone(t, name, good(1000)...)
	}
}

// wrong are arguments that may not be.
func wrong() []api.Arg {
	out := []api.Arg{{}, {Rows: 1}, {Cols: 1}, {Rows: -1, Cols: -1}, {Rows: api.MaxRows + 1, Cols: 1}, {Rows: 1, Cols: api.MaxCols + 1}, {Miss: true}, {Miss: true, Rows: 2, Cols: 1}, {Miss: true, Rows: 1, Cols: 1, Cells: []api.Place{at(0, 0, num(1))}},
		{Rows: 1, Cols: 1, Cells: []api.Place{at(0, 0, api.Value{})}}, {Rows: 1, Cols: 1, Cells: []api.Place{at(0, 0, num(1)), at(0, 0, num(1))}}, {Rows: 1, Cols: 1, Cells: []api.Place{at(1, 0, num(1))}}, {Rows: 2, Cols: 1, Cells: []api.Place{at(1, 0, num(1)), at(0, 0, num(1))}}, {Rows: 1, Cols: 1, Cells: []api.Place{at(0, -1, num(1))}}}
	for _, v := range malformed() {
		out = append(out, api.Arg{Rows: 1, Cols: 1, Cells: []api.Place{at(0, 0, v)}}, api.Arg{Ref: true, Rows: 3, Cols: 1, Cells: []api.Place{at(0, 0, num(1)), at(2, 0, v)}})
	}
	return out
}

// malformed are values that are not well formed.
func malformed() []api.Value {
	return []api.Value{num(nan), num(most), num(-most), num(below0), text("\xff"), text(strings.Repeat("1", api.MaxText+1)), fault(0), fault(10), {Kind: 5}, {Kind: -1}, {Kind: api.VNum, Num: 1, Text: "1"}, {Kind: api.VText, Num: below0}, {Kind: api.VErr, Err: 7, Num: 1}, {Kind: api.VBool, Err: 1}, {Num: 1}, {Text: "1"}}
}

// P18.1: an argument that may not be, at each place, beside good ones and beside errors.
func TestWrongArguments(t *testing.T) {
	for _, name := range all() {
		least, most := arity(name)
		for n := least; n <= min(most, 4) || n == most; n++ {
			for i := range n {
				for _, a := range wrong() {
					args := good(n)
					args[i] = a
					wantNone(t, name, args...)
					args[0] = single(fault(api.ENA))
					args[i] = a
					wantNone(t, name, args...)
				}
			}
		}
	}
}

// P18.1, the other way: arguments that may be are taken, however strange.
func TestStrangeArguments(t *testing.T) {
	for _, name := range all() {
		least, _ := arity(name)
		for _, a := range []api.Arg{{Miss: true, Ref: true, Rows: 1, Cols: 1}, {Rows: 1, Cols: 1}, single(text(strings.Repeat("1", api.MaxText))), refer(single(text(strings.Repeat("<", api.MaxText))))} {
			check(t, name, slices.Repeat([]api.Arg{a}, least)...)
		}
		for _, a := range []api.Arg{wide(), wide(at(api.MaxRows-1, api.MaxCols-1, num(2))), {Rows: api.MaxRows, Cols: api.MaxCols}} {
			x, is := fnstat.Call(name, slices.Repeat([]api.Arg{a}, least), api.Env{})
			if rows := map[bool]int{true: 1 + len(a.Cells), false: 1}[name == "FREQUENCY"]; !is || x.Rows != rows || x.Cols != 1 || len(x.Vals) != rows {
				t.Errorf("%s of the greatest area: %s, %v", name, told(x), is)
			}
		}
	}
}
