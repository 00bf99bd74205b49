package fnstat_test

import (
	"fmt"
	"maps"
	"math"
	"slices"
	"strings"
	"testing"

	"gridiron/api"
	"gridiron/fnstat"
)

// Numbers that no number of a cell may be.
var (
	nan    = math.NaN()
	most   = math.Inf(1)
	below0 = math.Copysign(0, -1)
)

// tiny and great are the least and the greatest number above 0.
const (
	tiny  = math.SmallestNonzeroFloat64
	great = math.MaxFloat64
)

func num(x float64) api.Value { return api.Value{Kind: api.VNum, Num: x} }

func text(s string) api.Value { return api.Value{Kind: api.VText, Text: s} }

func truth(yes bool) api.Value { return api.Value{Kind: api.VBool, Yes: yes} }

func fault(code int) api.Value { return api.Value{Kind: api.VErr, Err: code} }

func at(row, col int, v api.Value) api.Place { return api.Place{Row: row, Col: col, Val: v} }

// single is an argument of one place.
func single(v api.Value) api.Arg { return block(1, v) }

// just are numbers, and values numbers as values.
func just(l ...float64) []float64 { return l }

func values(l ...float64) []api.Value {
	var out []api.Value
	for _, x := range l {
		out = append(out, num(x))
	}
	return out
}

// singles are values as arguments.
func singles(l ...api.Value) []api.Arg {
	var out []api.Arg
	for _, v := range l {
		out = append(out, single(v))
	}
	return out
}

// refer is the same as a reference's.
func refer(a api.Arg) api.Arg {
	a.Ref = true
	return a
}

func missing() api.Arg { return api.Arg{Miss: true, Rows: 1, Cols: 1} }

// block is an area of so many rows; what is empty is not told.
func block(rows int, l ...api.Value) api.Arg {
	a := api.Arg{Rows: rows, Cols: len(l) / rows}
	for i, v := range l {
		if v.Kind != api.VEmpty {
			a.Cells = append(a.Cells, at(i/a.Cols, i%a.Cols, v))
		}
	}
	return a
}

// column is an area of one column, line one of one row; of a reference.
func column(l ...api.Value) api.Arg { return refer(block(len(l), l...)) }

func line(l ...api.Value) api.Arg { return refer(block(1, l...)) }

// numbers are numbers in a column.
func numbers(l ...float64) api.Arg { return column(values(l...)...) }

// wide is an area of the greatest size that tells of few places.
func wide(l ...api.Place) api.Arg {
	return api.Arg{Ref: true, Rows: api.MaxRows, Cols: api.MaxCols, Cells: l}
}

// told is what a test tells of a value, an array, or arguments: their beginning.
func told(x any) string {
	switch v := x.(type) {
	case api.Value:
		return fmt.Sprintf("{%d %v %.60q %v %d}", v.Kind, v.Num, v.Text, v.Yes, v.Err)
	case api.Arr:
		out := fmt.Sprintf("%d by %d of %d:", v.Rows, v.Cols, len(v.Vals))
		for _, x := range v.Vals[:min(len(v.Vals), 8)] {
			out += " " + told(x)
		}
		return out
	case []api.Arg:
		out := ""
		for _, a := range v {
			out += fmt.Sprintf("(%d by %d, ref %v, miss %v:", a.Rows, a.Cols, a.Ref, a.Miss)
			for _, p := range a.Cells[:min(len(a.Cells), 12)] {
				out += fmt.Sprintf(" %d, %d %s", p.Row, p.Col, told(p.Val))
			}
			out += ") "
		}
		return out
	}
	return ""
}

// sameNumber tells whether two floats are the same to the last bit; all NaNs are the same.
func sameNumber(a, b float64) bool {
	return math.Float64bits(a) == math.Float64bits(b) || a != a && b != b
}

func same(a, b api.Value) bool {
	bits := sameNumber(a.Num, b.Num)
	a.Num, b.Num = 0, 0
	return bits && a == b
}

func sameArray(a, b api.Arr) bool {
	return a.Rows == b.Rows && a.Cols == b.Cols && slices.EqualFunc(a.Vals, b.Vals, same)
}

// wantArray asks a function about arguments; what is false is beside the zero array.
func wantArray(t *testing.T, name string, x api.Arr, is bool, args ...api.Arg) {
	t.Helper()
	got, ok := fnstat.Call(name, args, api.Env{Now: 3, Draws: just(0.5)})
	if ok != is || !sameArray(got, x) {
		t.Errorf("%.60s %.900s: %s, %v, want %s, %v", name, told(args), told(got), ok, told(x), is)
	}
}

func want(t *testing.T, name string, v api.Value, args ...api.Arg) {
	t.Helper()
	wantArray(t, name, api.Arr{Rows: 1, Cols: 1, Vals: []api.Value{v}}, true, args...)
}

func wantNone(t *testing.T, name string, args ...api.Arg) {
	t.Helper()
	wantArray(t, name, api.Arr{}, false, args...)
}

// check holds a function against the model.
func check(t *testing.T, name string, args ...api.Arg) {
	t.Helper()
	x, is := model(name, args)
	wantArray(t, name, x, is, args...)
}

// arities are the names of the functions by how many arguments they take.
func arities() map[[2]int]string {
	return map[[2]int]string{
		{1, 32}: "AVERAGE AVERAGEA COUNT COUNTA MAX MIN MAXA MINA DEVSQ AVEDEV VAR VARP STDEV STDEVP VARA VARPA STDEVA STDEVPA MEDIAN MODE HARMEAN",
		{1, 1}:  "COUNTBLANK",
		{2, 2}:  "LARGE SMALL PERCENTILE QUARTILE PERCENTRANK TRIMMEAN COVAR CORREL PEARSON RSQ SLOPE INTERCEPT FREQUENCY COUNTIF",
		{2, 3}:  "RANK SUMIF AVERAGEIF",
		{3, 3}:  "STANDARDIZE FORECAST",
		{2, 32}: "COUNTIFS",
		{3, 32}: "SUMIFS AVERAGEIFS MAXIFS MINIFS",
	}
}

// takes has how many arguments each function takes, as the tests have it.
var takes = func() map[string][2]int {
	out := map[string][2]int{}
	for size, some := range arities() {
		for _, name := range strings.Fields(some) {
			out[name] = size
		}
	}
	return out
}()

// all are the names of all functions, as the tests have them.
func all() []string { return slices.Sorted(maps.Keys(takes)) }

// arity is how many arguments a function takes, as the tests have it.
func arity(name string) (int, int) { return takes[name][0], takes[name][1] }

// good are arguments of which most functions make something, as many as are asked for.
func good(n int) []api.Arg {
	var out []api.Arg
	for i := range n {
		out = append(out, single(num(float64(1+i%2))))
	}
	return out
}

// draws looks drawn, and is the same in each run.
type draws uint64

// below is a number from 0 on below n.
func (d *draws) below(n int) int {
	x := uint64(*d)
	x ^= x << 13
	x ^= x >> 7
	x ^= x << 17
	*d = draws(x)
	return int(x * 0x2545F4914F6CDD1D >> 33 % uint64(n))
}

func (d *draws) yes() bool { return d.below(2) > 0 }

func pick[T any](d *draws, from ...T) T { return from[d.below(len(from))] }

// float is a finite float, no -0: a small whole number, one with a few digits behind the point, one at which something may change, or any.
func (d *draws) float() float64 {
	switch d.below(10) {
	case 0, 1, 2, 3:
		return float64(d.below(9) - 3)
	case 4, 5, 6:
		return float64(d.below(4001)-2000) / 100
	case 7:
		return pick(d, edges()...)
	}
	for {
		x := math.Float64frombits(uint64(d.below(1<<31))<<33 ^ uint64(d.below(1<<31))<<11 ^ uint64(d.below(1<<11)))
		if x-x == 0 && x != 0 {
			return x
		}
	}
}

// edges are numbers at which something may change.
func edges() []float64 {
	out := []float64{0, 0.25, 0.5, 0.75, 1, math.Nextafter(1, 0), math.Nextafter(1, 2), 1.5, 2, 3, 4, 5, 0.1, 0.3, 100, 0x1p53, 0x1p53 + 2, 1e160, great, math.Nextafter(great, 0), tiny, 0x1p-1022, 1e-200}
	for _, x := range out[1:] {
		out = append(out, -x)
	}
	return out
}

// words are texts: some are numbers, some are criteria, some none of these.
func words() []string {
	return []string{"", "1", "2", "-2.5", "1e3", "5E-1", "-0", "1e999", "+1", ".5", " 1", "1 ", "a", "A", "b", "ab", "é", "É", "TRUE", "false", "True", "falſe", "#N/A", "#n/a", "#DIV/0!", "\x00", "\U0001F600",
		"=", "<>", "<", ">", "<=", ">=", "=1", "<>1", ">1", ">=1", "<1", "<=1", "> 1", ">-0", "=a", "<>A", "<b", ">=AB", "=TRUE", "<>false", "<true", "=#N/A", "<>#n/a", ">#N/A", "==", "=<1", "><", "<>=1", "<<", "=>1", "<=>"}
}

// others are well-formed values of each kind, but for numbers.
func others() []api.Value {
	out := []api.Value{{}, truth(false), truth(true)}
	for _, s := range words() {
		out = append(out, text(s))
	}
	for code := 1; code <= 9; code++ {
		out = append(out, fault(code))
	}
	return out
}

// value is mostly a number.
func (d *draws) value() api.Value {
	switch d.below(12) {
	case 0:
		return pick(d, others()...)
	case 1:
		return pick(d, text("a"), text("1"), text(""), truth(d.yes()), api.Value{}, api.Value{})
	}
	return num(d.float())
}

// argument is one that may be.
func (d *draws) argument() api.Arg {
	switch d.below(10) {
	case 0:
		return missing()
	case 1, 2, 3, 4, 5:
		return d.area(1+d.below(6), 1+d.below(3))
	}
	a := single(d.value())
	a.Ref = d.below(4) == 0
	return a
}

// area is one with few errors.
func (d *draws) area(rows, cols int) api.Arg {
	var l []api.Value
	for range rows * cols {
		v := d.value()
		if v.Kind == api.VErr && d.below(4) > 0 {
			v = api.Value{}
		}
		l = append(l, v)
	}
	a := block(rows, l...)
	a.Ref = d.yes()
	return a
}

// arguments are those that a function may be asked about: mostly of the kind that it is for.
func (d *draws) arguments(name string) []api.Arg {
	least, most := arity(name)
	n := least + d.below(min(most, 6)-least+1)
	rows, cols := 1+d.below(5), 1+d.below(3)
	var out []api.Arg
	for i := range n {
		a := d.argument()
		switch {
		case d.below(6) == 0:
		case strings.HasSuffix(name, "IF") && i == 1, name == "COUNTIFS" && i%2 == 1, strings.HasSuffix(name, "IFS") && name != "COUNTIFS" && i > 0 && i%2 == 0:
			a = single(pick(d, num(float64(d.below(4))), text(pick(d, words()...)), d.value()))
		case most == 32 && least > 1, d.below(2) == 0:
			a = d.area(rows, cols)
		}
		out = append(out, a)
	}
	return out
}
