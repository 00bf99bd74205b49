package fnmath_test

import (
	"fmt"
	"math"
	"slices"
	"strconv"
	"strings"
	"testing"

	"gridiron/api"
	"gridiron/fnmath"
)

// Numbers that no number of a cell may be.
var (
	nan    = math.NaN()
	most   = math.Inf(1)
	below0 = math.Copysign(0, -1)
)

func num(x float64) api.Value { return api.Value{Kind: api.VNum, Num: x} }

func text(s string) api.Value { return api.Value{Kind: api.VText, Text: s} }

func truth(yes bool) api.Value { return api.Value{Kind: api.VBool, Yes: yes} }

func fault(code int) api.Value { return api.Value{Kind: api.VErr, Err: code} }

func at(row, col int, v api.Value) api.Place { return api.Place{Row: row, Col: col, Val: v} }

// single is an argument of one place.
func single(v api.Value) api.Arg {
	a := api.Arg{Rows: 1, Cols: 1}
	if v.Kind != api.VEmpty {
		a.Cells = []api.Place{at(0, 0, v)}
	}
	return a
}

// singles are numbers as arguments.
func singles(l ...float64) []api.Arg {
	var out []api.Arg
	for _, x := range l {
		out = append(out, single(num(x)))
	}
	return out
}

// refer is the same as a reference's.
func refer(a api.Arg) api.Arg {
	a.Ref = true
	return a
}

func missing() api.Arg { return api.Arg{Miss: true, Rows: 1, Cols: 1} }

// block is an area of so many rows; what is empty is not told.
func block(rows int, l ...api.Value) api.Arg {
	a := api.Arg{Rows: rows, Cols: len(l) / rows}
	for i, v := range l {
		if v.Kind != api.VEmpty {
			a.Cells = append(a.Cells, at(i/a.Cols, i%a.Cols, v))
		}
	}
	return a
}

// column is an area of one column of numbers.
func column(l ...float64) api.Arg {
	var vals []api.Value
	for _, x := range l {
		vals = append(vals, num(x))
	}
	return block(len(l), vals...)
}

// told is what a test tells of a value or of arguments: their beginning.
func told(x any) string {
	switch v := x.(type) {
	case api.Value:
		return fmt.Sprintf("{%d %v %.60q %v %d}", v.Kind, v.Num, v.Text, v.Yes, v.Err)
	case []api.Arg:
		out := ""
		for _, a := range v {
			out += fmt.Sprintf("(%d by %d, ref %v, miss %v:", a.Rows, a.Cols, a.Ref, a.Miss)
			for _, p := range a.Cells[:min(len(a.Cells), 6)] {
				out += fmt.Sprintf(" %d, %d %s", p.Row, p.Col, told(p.Val))
			}
			out += ") "
		}
		return out
	}
	return ""
}

// same tells whether two values are the same, field by field, floats by their bits.
func same(a, b api.Value) bool {
	bits := math.Float64bits(a.Num) == math.Float64bits(b.Num)
	a.Num, b.Num = 0, 0
	return bits && a == b
}

// half are draws of which the first one lies in the middle.
func half() api.Env { return api.Env{Draws: []float64{0.5, 0.25}} }

// want asks a function about arguments that it takes.
func want(t *testing.T, name string, v api.Value, args ...api.Arg) {
	t.Helper()
	wantDrawn(t, name, half(), v, true, args...)
}

// wantNone asks a function about arguments that it does not take.
func wantNone(t *testing.T, name string, args ...api.Arg) {
	t.Helper()
	wantDrawn(t, name, half(), api.Value{}, false, args...)
}

func wantDrawn(t *testing.T, name string, env api.Env, v api.Value, is bool, args ...api.Arg) {
	t.Helper()
	got, ok := fnmath.Call(name, args, env)
	switch {
	case ok != is:
		t.Errorf("%s %.600s: %v", name, told(args), ok)
	case !ok && (got.Rows != 0 || got.Cols != 0 || len(got.Vals) != 0):
		t.Errorf("%s %.600s: false beside %d by %d of %d", name, told(args), got.Rows, got.Cols, len(got.Vals))
	case ok && (got.Rows != 1 || got.Cols != 1 || len(got.Vals) != 1):
		t.Errorf("%s %.600s: %d by %d of %d", name, told(args), got.Rows, got.Cols, len(got.Vals))
	case ok && !same(got.Vals[0], v):
		t.Errorf("%s %.600s: %s, want %s", name, told(args), told(got.Vals[0]), told(v))
	}
}

// check holds a function against the model.
func check(t *testing.T, name string, args ...api.Arg) {
	t.Helper()
	v, is := model(name, args, half().Draws)
	wantDrawn(t, name, half(), v, is, args...)
}

// all are the names of all functions, as the tests have them.
func all() []string {
	var out []string
	for name := range plans() {
		out = append(out, name)
	}
	slices.Sort(out)
	return out
}

// good are arguments of a function that are no errors, as many as are asked for.
func good(name string, n int) []api.Arg {
	words := strings.Fields(plans()[name].takes)
	var out []api.Arg
	for i := range n {
		x := single(num(float64(12 - i)))
		if len(words) > 0 && strings.HasPrefix(words[min(i, len(words)-1)], "t") {
			x = single(text("i"))
		}
		out = append(out, x)
	}
	return out
}

// draws looks drawn, and is the same in each run.
type draws uint64

// below is a number from 0 on below n.
func (d *draws) below(n int) int {
	x := uint64(*d)
	x ^= x << 13
	x ^= x >> 7
	x ^= x << 17
	*d = draws(x)
	return int(x * 0x2545F4914F6CDD1D >> 33 % uint64(n))
}

func (d *draws) yes() bool { return d.below(2) > 0 }

func pick[T any](d *draws, from ...T) T { return from[d.below(len(from))] }

// float is a finite float: a small whole number, one with a few digits behind the point, one at which something may change, or any.
func (d *draws) float() float64 {
	switch d.below(8) {
	case 0, 1, 2:
		return float64(d.below(40) - 10)
	case 3:
		return float64(d.below(4001)-2000) / 100
	case 4:
		return pick(d, edges()...)
	case 5:
		return float64(d.below(1<<31)) * float64(d.below(1<<22))
	case 6:
		return float64(d.below(1 << 12))
	}
	for {
		x := math.Float64frombits(uint64(d.below(1<<31))<<33 ^ uint64(d.below(1<<31))<<11 ^ uint64(d.below(1<<11)))
		if x-x == 0 && x != 0 {
			return x
		}
	}
}

// edges are numbers at which something may change.
func edges() []float64 {
	next := math.Nextafter
	out := []float64{
		0, 0.25, 0.5, 1, 1.5, 2, 2.5, 3, 7, 0.1, 1.1, 1e-7, 1234.5678, next(0.5, 0), next(0.5, 1), next(1, 0), next(1, 2), next(2, 0), next(2.5, 0), next(2.5, 3),
		16, 20, 20.5, 21, 22, 35, 36, 36.5, 37, 53, 54, 169, 170, 170.5, 171, 255, 255.5, 256, 299, 300, 301, 999, 1000, 1000.5, 1001, 3999, 3999.5, 4000,
		0x1p48 - 1, 0x1p48 - 0.5, 0x1p48, 0x1p48 + 1, 0x1p52 - 1, 0x1p52 - 0.5, 0x1p52, 0x1p52 + 1, 0x1p53 - 1, 0x1p53, 0x1p53 + 2, 1e20, 1e21, 1e288, 1e300, math.MaxFloat64, next(math.MaxFloat64, 0), math.SmallestNonzeroFloat64, 0x1p-1022,
	}
	for _, x := range out[1:] {
		out = append(out, -x)
	}
	return out
}

// words are texts: some are numbers, some digits to other bases, some Roman ones, some none of these.
func words() []string {
	return []string{"", "1", "2", "-2.5", "1e3", "5E-1", "-0", "1e999", "+1", ".5", " 1", "1 ", "a", "Z", "ff", "FF", "00101", "1é", "é", "i", "IV", "iv", "IIII", "XCIX", "mmxxvi", "IM", "TRUE", "false", "#N/A", "\x00", "\U0001F600", strings.Repeat("0", 300) + "1", strings.Repeat("M", 40)}
}

// values are well-formed values of each kind, but for numbers.
func values() []api.Value {
	out := []api.Value{{}, truth(false), truth(true)}
	for _, s := range words() {
		out = append(out, text(s))
	}
	for code := 1; code <= 9; code++ {
		out = append(out, fault(code))
	}
	return out
}

// value is mostly a number.
func (d *draws) value() api.Value {
	switch d.below(12) {
	case 0:
		return pick(d, values()...)
	case 1:
		return text(strconv.FormatInt(int64(d.below(1<<20)), 2+d.below(35)))
	case 2:
		return pick(d, text(romanOf(d.below(4000))), truth(d.yes()), api.Value{})
	}
	return num(d.float() + 0)
}

// argument is one that may be.
func (d *draws) argument() api.Arg {
	switch d.below(10) {
	case 0:
		return missing()
	case 1, 2:
		return d.area(1+d.below(4), 1+d.below(3))
	}
	a := single(d.value())
	a.Ref = d.below(4) == 0
	return a
}

// area is one with few errors.
func (d *draws) area(rows, cols int) api.Arg {
	var l []api.Value
	for range rows * cols {
		v := d.value()
		if v.Kind == api.VErr && d.below(3) > 0 {
			v = api.Value{}
		}
		l = append(l, v)
	}
	a := block(rows, l...)
	a.Ref = d.yes()
	return a
}
