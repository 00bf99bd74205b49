package given_test

import (
	"slices"
	"testing"

	"gridiron/api"
	"gridiron/given"
)

// area is one of so many rows and columns; each place that it tells is a row, a column and a number.
func area(rows, cols int, l ...[3]int) api.Arg {
	a := api.Arg{Ref: true, Rows: rows, Cols: cols}
	for _, p := range l {
		a.Cells = append(a.Cells, api.Place{Row: p[0], Col: p[1], Val: num(float64(p[2]))})
	}
	return a
}

// wantPlaces asks for all values of areas at their places; 0 stands for what is empty.
func wantPlaces(t *testing.T, want [][]float64, areas ...api.Arg) {
	t.Helper()
	var got [][]float64
	for v := range given.Places(areas...) {
		var l []float64
		for _, x := range v {
			if x != num(x.Num) && x != (api.Value{}) {
				t.Errorf("%v in %v", x, areas)
			}
			l = append(l, x.Num)
		}
		got = append(got, l)
	}
	if !slices.EqualFunc(got, want, slices.Equal) {
		t.Errorf("places of %v: %v, want %v", areas, got, want)
	}
}

// The places of one area and of more, row by row, whichever of them tells something.
func TestPlaces(t *testing.T) {
	wantPlaces(t, nil)
	wantPlaces(t, nil, area(2, 2))
	wantPlaces(t, nil, area(api.MaxRows, api.MaxCols), area(api.MaxRows, api.MaxCols))
	a := area(2, 3, [3]int{0, 1, 1}, [3]int{0, 2, 2}, [3]int{1, 0, 3})
	b := area(2, 3, [3]int{0, 0, 4}, [3]int{0, 2, 5}, [3]int{1, 2, 6})
	wantPlaces(t, [][]float64{{1}, {2}, {3}}, a)
	wantPlaces(t, [][]float64{{0, 4}, {1, 0}, {2, 5}, {3, 0}, {0, 6}}, a, b)
	wantPlaces(t, [][]float64{{4, 0}, {0, 1}, {5, 2}, {0, 3}, {6, 0}}, b, a)
	wantPlaces(t, [][]float64{{4, 0, 4}, {0, 1, 0}, {5, 2, 5}, {0, 3, 0}, {6, 0, 6}}, b, a, b)
	last := [3]int{api.MaxRows - 1, api.MaxCols - 1, 7}
	wantPlaces(t, [][]float64{{0, 1}, {7, 7}}, area(api.MaxRows, api.MaxCols, last), area(api.MaxRows, api.MaxCols, [3]int{0, api.MaxCols - 1, 1}, last))
}

// The way through places may be left, gone over again, and nested.
func TestPlacesLeft(t *testing.T) {
	a := area(1, 3, [3]int{0, 0, 1}, [3]int{0, 1, 2}, [3]int{0, 2, 3})
	all := given.Places(a)
	for v := range all {
		if v[0] != num(1) {
			t.Errorf("the first place has %v", v)
		}
		break
	}
	var got []float64
	for v := range all {
		x := v[0].Num
		for w := range all {
			got = append(got, x*10+w[0].Num)
		}
	}
	if !slices.Equal(got, []float64{11, 12, 13, 21, 22, 23, 31, 32, 33}) {
		t.Errorf("nested: %v", got)
	}
}
