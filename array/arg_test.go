package array_test

import (
	"fmt"
	"math"
	"slices"
	"testing"

	"gridiron/api"
	"gridiron/array"
	"gridiron/value"
)

// area is a reference's argument.
func area(rows, cols int, l ...api.Place) api.Arg {
	return api.Arg{Ref: true, Rows: rows, Cols: cols, Cells: l}
}

func at(row, col int, v api.Value) api.Place { return api.Place{Row: row, Col: col, Val: v} }

func missing() api.Arg { return api.Arg{Miss: true, Rows: 1, Cols: 1} }

func wantArgErrno(t *testing.T, a api.Arg, want api.Errno) {
	t.Helper()
	wantErrno(t, "CheckArg("+told(a)+")", array.CheckArg(a), want)
}

// The values that tests go through are what they are taken for.
func TestValuesOfTests(t *testing.T) {
	for _, v := range formed() {
		wantErrno(t, told(v), value.Check(v), api.OK)
	}
	all := malformed()
	for i, v := range all {
		want := api.ErrArg
		if i >= len(all)-2 {
			want = api.ErrLong
		}
		wantErrno(t, told(v), value.Check(v), want)
	}
}

// P16.1: every two sizes, at their limits and far beyond.
func TestArgSizes(t *testing.T) {
	sizes := []int{math.MinInt, -1, 0, 1, 2, 1023, 1024, 1025, 1<<20 - 1, 1 << 20, 1<<20 + 1, 1 << 32, math.MaxInt}
	for _, rows := range sizes {
		for _, cols := range sizes {
			want := api.ErrArg
			if rows >= 1 && rows <= 1<<20 && cols >= 1 && cols <= 1<<10 {
				want = api.OK
			}
			wantArgErrno(t, area(rows, cols), want)
			wantArgErrno(t, api.Arg{Rows: rows, Cols: cols}, want)
			if rows != 1 || cols != 1 {
				want = api.ErrArg
			}
			wantArgErrno(t, api.Arg{Miss: true, Rows: rows, Cols: cols}, want)
		}
	}
}

// P16.1: places within the area, at its edges, and beyond each of them.
func TestArgPlaces(t *testing.T) {
	for _, size := range [][2]int{{1, 1}, {1, 5}, {5, 1}, {2, 3}, {api.MaxRows, api.MaxCols}, {api.MaxRows, 1}, {1, api.MaxCols}} {
		rows, cols := size[0], size[1]
		for _, row := range []int{math.MinInt, -1, 0, rows - 1, rows, math.MaxInt} {
			for _, col := range []int{math.MinInt, -1, 0, cols - 1, cols, math.MaxInt} {
				want := api.ErrArg
				if (row == 0 || row == rows-1) && (col == 0 || col == cols-1) {
					want = api.OK
				}
				wantArgErrno(t, area(rows, cols, at(row, col, num(1))), want)
			}
		}
	}
}

// P16.1: places row by row and from the left, none twice.
func TestArgOrder(t *testing.T) {
	var l []api.Place
	for i := range 6 {
		l = append(l, at(i/3, i%3, num(1)))
	}
	wantArgErrno(t, area(2, 3, l...), api.OK)
	for i, p := range l {
		for j, q := range l {
			want := api.ErrArg
			if i < j {
				want = api.OK
			}
			wantArgErrno(t, area(2, 3, p, q), want)
			for k, r := range l {
				want := api.ErrArg
				if i < j && j < k {
					want = api.OK
				}
				wantArgErrno(t, area(2, 3, p, q, r), want)
			}
		}
	}
	last := at(api.MaxRows-1, api.MaxCols-1, num(1))
	wantArgErrno(t, area(api.MaxRows, api.MaxCols, at(0, 0, num(1)), last), api.OK)
	wantArgErrno(t, area(api.MaxRows, api.MaxCols, last, last), api.ErrArg)
	wantArgErrno(t, area(api.MaxRows, api.MaxCols, last, at(0, 0, num(1))), api.ErrArg)
}

// P16.1: one that was left out has one place and tells nothing; Ref says nothing of what may be.
func TestArgMiss(t *testing.T) {
	wantArgErrno(t, missing(), api.OK)
	wantArgErrno(t, api.Arg{Miss: true, Ref: true, Rows: 1, Cols: 1}, api.OK)
	wantArgErrno(t, api.Arg{Miss: true, Rows: 1, Cols: 1, Cells: []api.Place{at(0, 0, num(1))}}, api.ErrArg)
	wantArgErrno(t, api.Arg{Miss: true, Rows: 1, Cols: 1, Cells: []api.Place{at(0, 0, long())}}, api.ErrArg)
	wantArgErrno(t, api.Arg{Miss: true}, api.ErrArg)
	wantArgErrno(t, api.Arg{}, api.ErrArg)
	wantArgErrno(t, api.Arg{Rows: 1, Cols: 1}, api.OK)
	wantArgErrno(t, api.Arg{Ref: true, Rows: 1, Cols: 1, Cells: []api.Place{at(0, 0, num(1))}}, api.OK)
	wantArgErrno(t, api.Arg{Rows: 3, Cols: 2, Cells: []api.Place{at(2, 1, num(1))}}, api.OK)
}

// P16.1: an empty value is not told; one that is not well formed has its own error, the first one of several.
func TestArgValues(t *testing.T) {
	for _, v := range formed() {
		want := api.OK
		if v.Kind == api.VEmpty {
			want = api.ErrArg
		}
		wantArgErrno(t, area(1, 1, at(0, 0, v)), want)
		wantArgErrno(t, area(2, 2, at(0, 0, num(1)), at(1, 0, v), at(1, 1, num(1))), want)
	}
	for _, v := range malformed() {
		want := value.Check(v)
		wantArgErrno(t, area(1, 1, at(0, 0, v)), want)
		l := []api.Place{at(0, 0, num(1)), at(0, 2, num(2)), at(1, 1, num(3)), at(2, 2, num(4))}
		for i := range l {
			bad := slices.Clone(l)
			bad[i].Val = v
			wantArgErrno(t, area(3, 3, bad...), want)
			for j := range bad {
				for _, w := range []api.Value{long(), odd()} {
					both := slices.Clone(bad)
					both[j].Val = w
					first := value.Check(both[min(i, j)].Val)
					if v.Kind == api.VEmpty && i != j {
						// it is empty, whatever else it is
						first = api.ErrArg
					}
					wantArgErrno(t, area(3, 3, both...), first)
				}
			}
		}
	}
}

// spoils are ways to make an argument of 2 rows and 3 columns with three places told one that may not be.
func spoils() map[string]func(a *api.Arg) {
	return map[string]func(a *api.Arg){
		"no rows":         func(a *api.Arg) { a.Rows = 0 },
		"rows below 0":    func(a *api.Arg) { a.Rows = math.MinInt },
		"too many rows":   func(a *api.Arg) { a.Rows = api.MaxRows + 1 },
		"no columns":      func(a *api.Arg) { a.Cols = 0 },
		"too many":        func(a *api.Arg) { a.Cols = api.MaxCols + 1 },
		"left out":        func(a *api.Arg) { a.Miss = true },
		"above":           func(a *api.Arg) { a.Cells[0].Row = -1 },
		"to the left":     func(a *api.Arg) { a.Cells[0].Col = -1 },
		"below":           func(a *api.Arg) { a.Cells[2].Row = 2 },
		"to the right":    func(a *api.Arg) { a.Cells[1].Col = 3 },
		"out of order":    func(a *api.Arg) { a.Cells[0], a.Cells[2] = a.Cells[2], a.Cells[0] },
		"twice":           func(a *api.Arg) { a.Cells[1].Row, a.Cells[1].Col = a.Cells[0].Row, a.Cells[0].Col },
		"empty at first":  func(a *api.Arg) { a.Cells[0].Val = api.Value{} },
		"empty at last":   func(a *api.Arg) { a.Cells[2].Val = api.Value{} },
		"empty, and more": func(a *api.Arg) { a.Cells[2].Val = api.Value{Num: 1} },
	}
}

// P16.1: each thing that is wrong, each two of them, and each beside values that are not well formed, which are asked behind all else.
func TestArgTwoFaults(t *testing.T) {
	fresh := func() api.Arg {
		return area(2, 3, at(0, 1, num(1)), at(0, 2, num(2)), at(1, 0, num(3)))
	}
	wantArgErrno(t, fresh(), api.OK)
	for name, spoil := range spoils() {
		a := fresh()
		spoil(&a)
		wantErrno(t, "CheckArg: "+name, array.CheckArg(a), api.ErrArg)
		for other, second := range spoils() {
			a := fresh()
			spoil(&a)
			second(&a)
			wantErrno(t, fmt.Sprintf("CheckArg: %s, then %s", name, other), array.CheckArg(a), modelArg(a))
		}
		for i := range 3 {
			a := fresh()
			a.Cells[i].Val = long()
			spoil(&a)
			wantErrno(t, fmt.Sprintf("CheckArg: %s, and a value that is too long at %d", name, i), array.CheckArg(a), api.ErrArg)
		}
	}
	for i := range 3 {
		a := fresh()
		a.Cells[i].Val = long()
		wantArgErrno(t, a, api.ErrLong)
	}
}

// P16.1: drawn arguments.
func TestArgDrawn(t *testing.T) {
	d := draws(2)
	for range 5000 {
		a := d.argument()
		wantArgErrno(t, a, modelArg(a))
	}
}
