package array_test

import (
	"fmt"
	"math"
	"math/big"
	"strconv"
	"testing"

	"gridiron/api"
	"gridiron/value"
)

// Numbers that no number of a cell may be.
var (
	nan    = math.NaN()
	most   = math.Inf(1)
	least  = math.Inf(-1)
	below0 = math.Copysign(0, -1)
)

func num(x float64) api.Value { return api.Value{Kind: api.VNum, Num: x} }

func text(s string) api.Value { return api.Value{Kind: api.VText, Text: s} }

func truth(yes bool) api.Value { return api.Value{Kind: api.VBool, Yes: yes} }

func fault(code int) api.Value { return api.Value{Kind: api.VErr, Err: code} }

// told is what a test tells of a value, an array or an argument: its beginning.
func told(x any) string {
	switch v := x.(type) {
	case api.Value:
		return fmt.Sprintf("{%d %v %.40q %v %d}", v.Kind, v.Num, v.Text, v.Yes, v.Err)
	case api.Place:
		return fmt.Sprintf("%d, %d: %s", v.Row, v.Col, told(v.Val))
	case api.Arr:
		return fmt.Sprintf("%d by %d of %d: %s", v.Rows, v.Cols, len(v.Vals), someTold(v.Vals))
	case api.Arg:
		return fmt.Sprintf("%d by %d, ref %v, miss %v, %d told: %s", v.Rows, v.Cols, v.Ref, v.Miss, len(v.Cells), someTold(v.Cells))
	}
	return ""
}

func someTold[T any](l []T) string {
	out := ""
	for _, x := range l[:min(len(l), 8)] {
		out += told(x) + " "
	}
	return out
}

// same tells whether two values are the same, field by field, floats by their bits.
func same(a, b api.Value) bool {
	bits := math.Float64bits(a.Num) == math.Float64bits(b.Num)
	a.Num, b.Num = 0, 0
	return bits && a == b
}

func sameArr(a, b api.Arr) bool {
	if a.Rows != b.Rows || a.Cols != b.Cols || len(a.Vals) != len(b.Vals) {
		return false
	}
	for i := range a.Vals {
		if !same(a.Vals[i], b.Vals[i]) {
			return false
		}
	}
	return true
}

func sameArg(a, b api.Arg) bool {
	if a.Ref != b.Ref || a.Miss != b.Miss || a.Rows != b.Rows || a.Cols != b.Cols || len(a.Cells) != len(b.Cells) {
		return false
	}
	for i, p := range a.Cells {
		q := b.Cells[i]
		if p.Row != q.Row || p.Col != q.Col || !same(p.Val, q.Val) {
			return false
		}
	}
	return true
}

func wantErrno(t *testing.T, what string, got, want api.Errno) {
	t.Helper()
	if got != want {
		t.Errorf("%.400s: %d, want %d", what, got, want)
	}
}

func wantValue(t *testing.T, what string, got, want api.Value) {
	t.Helper()
	if !same(got, want) {
		t.Errorf("%.400s: %s, want %s", what, told(got), told(want))
	}
}

func wantArr(t *testing.T, what string, got, want api.Arr) {
	t.Helper()
	if !sameArr(got, want) {
		t.Errorf("%.400s: %s, want %s", what, told(got), told(want))
	}
}

func wantArg(t *testing.T, what string, got, want api.Arg) {
	t.Helper()
	if !sameArg(got, want) {
		t.Errorf("%.400s: %s, want %s", what, told(got), told(want))
	}
}

// one is an array of one value.
func one(v api.Value) api.Arr { return api.Arr{Rows: 1, Cols: 1, Vals: []api.Value{v}} }

// row is an array of one row, column one of one column, block one of so many rows.
func row(l ...api.Value) api.Arr { return api.Arr{Rows: 1, Cols: len(l), Vals: l} }

func column(l ...api.Value) api.Arr { return api.Arr{Rows: len(l), Cols: 1, Vals: l} }

func block(rows int, l ...api.Value) api.Arr {
	return api.Arr{Rows: rows, Cols: len(l) / rows, Vals: l}
}

// nums are numbers as values.
func nums(l ...float64) []api.Value {
	var out []api.Value
	for _, x := range l {
		out = append(out, num(x))
	}
	return out
}

// counted are the numbers from 1 to n as values.
func counted(n int) []api.Value {
	out := make([]api.Value, n)
	for i := range out {
		out[i] = num(float64(i + 1))
	}
	return out
}

// places are how many places there are, as a number of any length.
func places(rows, cols int) *big.Int {
	return new(big.Int).Mul(big.NewInt(int64(rows)), big.NewInt(int64(cols)))
}

// modelMake is the error that a list of values has as an array.
func modelMake(rows, cols int, l []api.Value) api.Errno {
	switch {
	case rows < 1, cols < 1:
		return api.ErrArg
	case places(rows, cols).Cmp(big.NewInt(4096)) > 0:
		return api.ErrLong
	case places(rows, cols).Cmp(big.NewInt(int64(len(l)))) != 0:
		return api.ErrArg
	}
	for _, v := range l {
		if e := value.Check(v); e != api.OK {
			return e
		}
	}
	return api.OK
}

// modelArg is the error of an argument: each thing that may be wrong is looked for in all of it, values last.
func modelArg(a api.Arg) api.Errno {
	wrong := a.Rows < 1 || a.Rows > 1048576 || a.Cols < 1 || a.Cols > 1024 || a.Miss && (a.Rows != 1 || a.Cols != 1 || len(a.Cells) != 0)
	for i, p := range a.Cells {
		wrong = wrong || p.Row < 0 || p.Row > a.Rows-1 || p.Col < 0 || p.Col > a.Cols-1 || p.Val.Kind == 0
		if i > 0 {
			ahead := a.Cells[i-1]
			wrong = wrong || !(p.Row > ahead.Row || p.Row == ahead.Row && p.Col > ahead.Col)
		}
	}
	if wrong {
		return api.ErrArg
	}
	for _, p := range a.Cells {
		if e := value.Check(p.Val); e != api.OK {
			return e
		}
	}
	return api.OK
}

// modelAt goes through all places and takes the one that is asked for; ENA, if it meets none.
func modelAt(a api.Arr, row, col int) api.Value {
	if places(a.Rows, a.Cols).Cmp(big.NewInt(int64(len(a.Vals)))) != 0 || a.Rows < 0 {
		return fault(7)
	}
	for i, v := range a.Vals {
		r, c := i/a.Cols, i%a.Cols
		if (r == row || a.Rows == 1) && (c == col || a.Cols == 1) {
			return v
		}
	}
	return fault(7)
}

// modelUnary and modelBinary take each operator by itself.
func modelUnary(op int, a api.Value) api.Value {
	if value.Check(a) != api.OK || op < 9 || op > 11 {
		return fault(3)
	}
	x := value.AsNumber(a)
	switch {
	case op == 9:
		return a
	case x.Kind == 4:
		return x
	case op == 10:
		return modelReckon(0 - x.Num)
	}
	return modelReckon(quo(x.Num, 100))
}

func modelBinary(op int, a, b api.Value) api.Value {
	if value.Check(a) != api.OK || value.Check(b) != api.OK || op < 12 || op > 23 {
		return fault(3)
	}
	if op <= 16 {
		a, b = value.AsNumber(a), value.AsNumber(b)
	}
	if op == 17 {
		a, b = value.AsText(a), value.AsText(b)
	}
	if a.Kind == 4 {
		return a
	}
	if b.Kind == 4 {
		return b
	}
	if op <= 16 {
		return modelNumbers(op, a.Num, b.Num)
	}
	if op > 17 {
		is := value.Compare(a, b)
		return truth(op == 18 && is == 0 || op == 19 && is != 0 || op == 20 && is < 0 || op == 21 && is <= 0 || op == 22 && is > 0 || op == 23 && is >= 0)
	}
	if all := string(append([]byte(a.Text), b.Text...)); len(all) <= 32768 {
		return text(all)
	}
	return fault(9)
}

func modelNumbers(op int, x, y float64) api.Value {
	switch {
	case op == 12:
		return modelPower(x, y)
	case op == 13:
		return modelReckon(mul(x, y))
	case op == 14 && y == 0:
		return fault(2)
	case op == 14:
		return modelReckon(quo(x, y))
	case op == 15:
		return modelReckon(add(x, y))
	}
	return modelReckon(add(x, 0-y))
}

// modelPower squares by the digits of the exponent as a text, each product rounded from its exact value.
func modelPower(x, y float64) api.Value {
	n, whole := big.NewFloat(y).Int64()
	switch {
	case x == 0 && y == 0:
		return fault(6)
	case x == 0 && y < 0:
		return fault(2)
	case whole == big.Exact && n <= 1024 && n >= -1024:
		p := 1.0
		for _, digit := range strconv.FormatInt(max(n, -n), 2) {
			p = mul(p, p)
			if digit == '1' {
				p = mul(p, x)
			}
		}
		if y < 0 {
			p = quo(1, p)
		}
		return modelReckon(p)
	case y == 0.5 && x >= 0:
		// more digits than any root of a float needs to be told from what lies half between two
		root, _ := new(big.Float).SetPrec(300).Sqrt(new(big.Float).SetPrec(300).SetFloat64(x)).Float64()
		return modelReckon(root)
	}
	return fault(6)
}

// modelReckon is a number that was reckoned as a value.
func modelReckon(x float64) api.Value {
	if x-x != 0 {
		return fault(6)
	}
	return num(x + 0)
}

// exact rounds what becomes of two floats, if both are finite; else floats do.
func exact(x, y float64, of func(z, x, y *big.Float) *big.Float, plain float64) float64 {
	if x-x != 0 || y-y != 0 {
		return plain
	}
	// a sum of the greatest and the least float has 2,100 bits
	a, b := new(big.Float).SetPrec(53).SetFloat64(x), new(big.Float).SetPrec(53).SetFloat64(y)
	out, _ := of(new(big.Float).SetPrec(2200), a, b).Float64()
	return out
}

func mul(x, y float64) float64 { return exact(x, y, (*big.Float).Mul, x*y) }

func add(x, y float64) float64 { return exact(x, y, (*big.Float).Add, x+y) }

// quo is a quotient; what is divided by 0 is an infinity, as of floats.
func quo(x, y float64) float64 {
	if y == 0 {
		return x / y
	}
	return exact(x, y, (*big.Float).Quo, x/y)
}

// modelMap has its places by rows and columns of a map, whatever the sizes are.
func modelMap(rows, cols int, has func(row, col int) api.Value) api.Arr {
	if rows*cols > 4096 {
		return one(fault(9))
	}
	out := api.Arr{Rows: rows, Cols: cols}
	for i := range rows * cols {
		out.Vals = append(out.Vals, has(i/cols, i%cols))
	}
	return out
}

func modelMap1(op int, a api.Arr) api.Arr {
	if modelMake(a.Rows, a.Cols, a.Vals) != api.OK {
		return one(fault(3))
	}
	return modelMap(a.Rows, a.Cols, func(row, col int) api.Value { return modelUnary(op, modelAt(a, row, col)) })
}

func modelMap2(op int, a, b api.Arr) api.Arr {
	if modelMake(a.Rows, a.Cols, a.Vals) != api.OK || modelMake(b.Rows, b.Cols, b.Vals) != api.OK {
		return one(fault(3))
	}
	return modelMap(max(a.Rows, b.Rows), max(a.Cols, b.Cols), func(row, col int) api.Value {
		return modelBinary(op, modelAt(a, row, col), modelAt(b, row, col))
	})
}

// cells are the values of an argument by their places.
func cells(a api.Arg) map[api.Cell]api.Value {
	out := map[api.Cell]api.Value{}
	for _, p := range a.Cells {
		out[api.Cell{Row: p.Row, Col: p.Col}] = p.Val
	}
	return out
}

func modelDense(a api.Arg) (api.Arr, bool) {
	if modelArg(a) != api.OK || a.Rows*a.Cols > 4096 {
		return api.Arr{}, false
	}
	all := cells(a)
	return modelMap(a.Rows, a.Cols, func(row, col int) api.Value { return all[api.Cell{Row: row, Col: col}] }), true
}

func modelSparse(a api.Arr) api.Arg {
	if modelMake(a.Rows, a.Cols, a.Vals) != api.OK || a.Cols > 1024 {
		return api.Arg{}
	}
	out := api.Arg{Rows: a.Rows, Cols: a.Cols}
	for i, v := range a.Vals {
		if v.Kind != 0 {
			out.Cells = append(out.Cells, api.Place{Row: i / a.Cols, Col: i % a.Cols, Val: v})
		}
	}
	return out
}

func modelSingle(a api.Arg) api.Value {
	switch {
	case modelArg(a) != api.OK:
		return fault(3)
	case a.Miss:
		return api.Value{}
	case a.Rows == 1 && a.Cols == 1:
		return cells(a)[api.Cell{}]
	}
	return fault(3)
}

// modelCut reckons with numbers of any length.
func modelCut(a api.Arg, top, left, row, col int) api.Value {
	if modelArg(a) != api.OK || a.Miss || a.Rows == 1 && a.Cols == 1 {
		return modelSingle(a)
	}
	if at, is := modelAmong(row, top, a.Rows); a.Cols == 1 && is {
		return cells(a)[api.Cell{Row: at}]
	}
	if at, is := modelAmong(col, left, a.Cols); a.Rows == 1 && is {
		return cells(a)[api.Cell{Col: at}]
	}
	return fault(3)
}

func modelAmong(line, first, n int) (int, bool) {
	last := new(big.Int).Add(big.NewInt(int64(first)), big.NewInt(int64(n-1)))
	at := new(big.Int).Sub(big.NewInt(int64(line)), big.NewInt(int64(first)))
	is := last.IsInt64() && at.Sign() >= 0 && at.Cmp(big.NewInt(int64(n))) < 0
	if !is {
		return 0, false
	}
	return int(at.Int64()), true
}

// modelTurn puts column behind column.
func modelTurn(a api.Arr) api.Arr {
	if modelMake(a.Rows, a.Cols, a.Vals) != api.OK {
		return a
	}
	out := api.Arr{Rows: a.Cols, Cols: a.Rows}
	for col := range a.Cols {
		for i := col; i < len(a.Vals); i += a.Cols {
			out.Vals = append(out.Vals, a.Vals[i])
		}
	}
	return out
}
