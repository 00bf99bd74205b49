package array_test

import (
	"slices"
	"testing"

	"gridiron/api"
	"gridiron/array"
)

func wantDense(t *testing.T, a api.Arg, want api.Arr, is bool) {
	t.Helper()
	got, ok := array.Dense(a)
	wantArr(t, "Dense("+told(a)+")", got, want)
	if ok != is {
		t.Errorf("Dense(%s): %v", told(a), ok)
	}
}

func wantSparse(t *testing.T, a api.Arr, want api.Arg) {
	t.Helper()
	wantArg(t, "Sparse("+told(a)+")", array.Sparse(a), want)
}

func wantSingle(t *testing.T, a api.Arg, want api.Value) {
	t.Helper()
	wantValue(t, "Single("+told(a)+")", array.Single(a), want)
}

// wrongArgs are arguments that CheckArg refuses.
func wrongArgs() []api.Arg {
	out := []api.Arg{{}, {Rows: 1}, {Cols: 1}, area(0, 1), area(1, 0), area(-1, -1), area(api.MaxRows+1, 1), area(1, api.MaxCols+1), area(1<<62, 4), {Miss: true}, {Miss: true, Rows: 1, Cols: 2}, {Miss: true, Rows: 1, Cols: 1, Cells: []api.Place{at(0, 0, num(1))}},
		area(1, 1, at(0, 0, num(1)), at(0, 0, num(1))), area(2, 1, at(1, 0, num(1)), at(0, 0, num(2))), area(2, 1, at(2, 0, num(1))), area(2, 1, at(0, 1, num(1))), area(1, 2, at(-1, 0, num(1))), area(1, 1, at(0, 0, api.Value{})), area(3, 1, at(1, 0, api.Value{}))}
	for _, v := range malformed() {
		out = append(out, area(1, 1, at(0, 0, v)), area(3, 1, at(0, 0, num(1)), at(2, 0, v)), area(1, 3, at(0, 1, v)), area(2, 2, at(1, 1, v)))
	}
	return out
}

// P16.5: an argument's places, told and not told.
func TestDense(t *testing.T) {
	none := api.Value{}
	wantDense(t, area(3, 1, at(0, 0, num(1)), at(2, 0, num(3))), column(num(1), none, num(3)), true)
	wantDense(t, area(2, 3), block(2, none, none, none, none, none, none), true)
	wantDense(t, area(2, 3, at(0, 2, num(3)), at(1, 0, num(4))), block(2, none, none, num(3), num(4), none, none), true)
	wantDense(t, area(2, 2, at(0, 0, text("a")), at(0, 1, truth(false)), at(1, 0, fault(api.ENA)), at(1, 1, num(0))), block(2, text("a"), truth(false), fault(api.ENA), num(0)), true)
	wantDense(t, api.Arg{Rows: 1, Cols: 1, Cells: []api.Place{at(0, 0, num(1))}}, one(num(1)), true)
	wantDense(t, area(1, 1), one(none), true)
	wantDense(t, missing(), one(none), true)
	for _, a := range wrongArgs() {
		wantDense(t, a, api.Arr{}, false)
	}
}

// P16.5: areas of MaxArea places, and beyond.
func TestDenseLimit(t *testing.T) {
	for _, size := range [][2]int{{4096, 1}, {4, 1024}, {64, 64}, {1024, 4}, {4095, 1}, {3, 1024}, {1, 1024}} {
		rows, cols := size[0], size[1]
		a := area(rows, cols, at(0, 0, num(1)), at(rows-1, cols-1, num(2)))
		vals := make([]api.Value, rows*cols)
		vals[0], vals[len(vals)-1] = num(1), num(2)
		wantDense(t, a, api.Arr{Rows: rows, Cols: cols, Vals: vals}, true)
	}
	for _, size := range [][2]int{{4097, 1}, {5, 1024}, {65, 64}, {64, 65}, {2049, 2}, {api.MaxRows, 1}, {api.MaxRows, api.MaxCols}} {
		wantDense(t, area(size[0], size[1]), api.Arr{}, false)
		wantDense(t, area(size[0], size[1], at(0, 0, num(1))), api.Arr{}, false)
	}
}

// P16.5: the values that are not empty, in their order, and no Ref.
func TestSparse(t *testing.T) {
	none := api.Value{}
	wantSparse(t, column(num(1), none, num(3)), api.Arg{Rows: 3, Cols: 1, Cells: []api.Place{at(0, 0, num(1)), at(2, 0, num(3))}})
	wantSparse(t, block(2, none, text(""), none, fault(api.ENA), none, truth(false)), api.Arg{Rows: 2, Cols: 3, Cells: []api.Place{at(0, 1, text("")), at(1, 0, fault(api.ENA)), at(1, 2, truth(false))}})
	wantSparse(t, block(3, num(1), num(0), num(3), num(4), none, num(6)), api.Arg{Rows: 3, Cols: 2, Cells: []api.Place{at(0, 0, num(1)), at(0, 1, num(0)), at(1, 0, num(3)), at(1, 1, num(4)), at(2, 1, num(6))}})
	wantSparse(t, one(none), api.Arg{Rows: 1, Cols: 1})
	wantSparse(t, row(none, none), api.Arg{Rows: 1, Cols: 2})
	for _, a := range refused() {
		wantSparse(t, a, api.Arg{})
	}
}

// P16.5: arrays of MaxCols columns and of one more, and of as many rows as there may be.
func TestSparseLimit(t *testing.T) {
	for _, cols := range []int{1023, 1024} {
		wide := api.Arr{Rows: 2, Cols: cols, Vals: counted(2 * cols)}
		wantSparse(t, wide, modelSparse(wide))
		if got := array.Sparse(wide); len(got.Cells) != 2*cols {
			t.Errorf("%d columns: %d places", cols, len(got.Cells))
		}
	}
	for _, size := range [][2]int{{1, 1025}, {2, 1025}, {1, 2048}, {2, 2048}, {1, 4096}} {
		wide := api.Arr{Rows: size[0], Cols: size[1], Vals: counted(size[0] * size[1])}
		wantSparse(t, wide, api.Arg{})
	}
	for _, rows := range []int{1024, 1025, 4096} {
		tall := api.Arr{Rows: rows, Cols: 1, Vals: counted(rows)}
		if got := array.Sparse(tall); got.Rows != rows || len(got.Cells) != rows || got.Cells[rows-1] != at(rows-1, 0, num(float64(rows))) {
			t.Errorf("%d rows: %s", rows, told(got))
		}
	}
}

// P16.5: one place, told and not told, one that was left out, more places, and what may not be.
func TestSingle(t *testing.T) {
	for _, v := range formed() {
		if v.Kind == api.VEmpty {
			continue
		}
		wantSingle(t, area(1, 1, at(0, 0, v)), v)
		wantSingle(t, api.Arg{Rows: 1, Cols: 1, Cells: []api.Place{at(0, 0, v)}}, v)
		wantSingle(t, area(1, 2, at(0, 0, v)), fault(api.EValue))
		wantSingle(t, area(2, 1, at(0, 0, v)), fault(api.EValue))
	}
	wantSingle(t, area(1, 1), api.Value{})
	wantSingle(t, api.Arg{Rows: 1, Cols: 1}, api.Value{})
	wantSingle(t, missing(), api.Value{})
	wantSingle(t, area(2, 1), fault(api.EValue))
	wantSingle(t, area(api.MaxRows, api.MaxCols), fault(api.EValue))
	for _, a := range wrongArgs() {
		wantSingle(t, a, fault(api.EValue))
	}
}

// P16.5: drawn arguments and arrays.
func TestAreasDrawn(t *testing.T) {
	d := draws(6)
	for range 4000 {
		g, a := d.argument(), d.array(false)
		want, is := modelDense(g)
		wantDense(t, g, want, is)
		wantSparse(t, a, modelSparse(a))
		wantSingle(t, g, modelSingle(g))
	}
}

// P16.5: empty values among those that are told make an argument that may not be, wherever they stand.
func TestAreasWithEmptyTold(t *testing.T) {
	l := []api.Place{at(0, 0, num(1)), at(0, 1, num(2)), at(1, 0, num(3)), at(1, 1, num(4))}
	wantDense(t, area(2, 2, l...), block(2, nums(1, 2, 3, 4)...), true)
	for i := range l {
		empty := slices.Clone(l)
		empty[i].Val = api.Value{}
		wantDense(t, area(2, 2, empty...), api.Arr{}, false)
		for j := range i {
			turned := slices.Clone(l)
			turned[i], turned[j] = turned[j], turned[i]
			wantDense(t, area(2, 2, turned...), api.Arr{}, false)
		}
	}
}
