package refs_test

import (
	"math"
	"math/big"
	"testing"

	"gridiron/api"
	"gridiron/refs"
)

func wantNorm(t *testing.T, r, want api.Ref) {
	t.Helper()
	if got := refs.Norm(r); got != want {
		t.Errorf("Norm(%s): %s, want %s", told(r), told(got), told(want))
	}
}

// corners are all pairs of corners with such rows and columns and all $.
func corners(rows, cols []int) []api.Ref {
	var out []api.Ref
	for _, ar := range rows {
		for _, br := range rows {
			for _, ac := range cols {
				for _, bc := range cols {
					for signs := range 16 {
						a := api.Corner{Row: ar, Col: ac, AbsRow: signs&1 != 0, AbsCol: signs&2 != 0}
						b := api.Corner{Row: br, Col: bc, AbsRow: signs&4 != 0, AbsCol: signs&8 != 0}
						out = append(out, api.Ref{A: a, B: b, Area: true})
					}
				}
			}
		}
	}
	return out
}

// extremes are numbers whose differences leave an int.
var extremes = []int{math.MinInt, math.MinInt + 1, -1, 0, 1, api.MaxRows, math.MaxInt - 1, math.MaxInt}

// P11.4: corners in each order, each row and column with its own $.
func TestNorm(t *testing.T) {
	a := api.Corner{Row: 1, Col: 2, AbsRow: true}
	b := api.Corner{Row: 5, Col: 7, AbsCol: true}
	wantNorm(t, api.Ref{Area: true, A: a, B: b}, api.Ref{Area: true, A: a, B: b})
	wantNorm(t, api.Ref{Area: true, A: b, B: a}, api.Ref{Area: true, A: a, B: b})
	turned := api.Ref{Area: true, A: api.Corner{Row: 1, Col: 7, AbsRow: true, AbsCol: true}, B: api.Corner{Row: 5, Col: 2}}
	wantNorm(t, turned, api.Ref{Area: true, A: a, B: b})
	turned.A, turned.B = turned.B, turned.A
	wantNorm(t, turned, api.Ref{Area: true, A: a, B: b})
	// of equal ones the $ stay
	for _, same := range []api.Ref{
		{Area: true, A: api.Corner{Row: 3, Col: 3, AbsRow: true}, B: api.Corner{Row: 3, Col: 3, AbsCol: true}},
		{Area: true, A: api.Corner{Row: 3, Col: 3, AbsCol: true}, B: api.Corner{Row: 3, Col: 4, AbsRow: true}},
		{Area: true, A: api.Corner{Row: 3, Col: 3, AbsRow: true}, B: api.Corner{Row: 4, Col: 3, AbsCol: true}},
	} {
		wantNorm(t, same, same)
	}
	half := api.Ref{Area: true, A: api.Corner{Row: 3, Col: 4, AbsRow: true, AbsCol: true}, B: api.Corner{Row: 3, Col: 1}}
	wantNorm(t, half, api.Ref{Area: true, A: api.Corner{Row: 3, Col: 1, AbsRow: true}, B: api.Corner{Row: 3, Col: 4, AbsCol: true}})
}

// P11.4: all corners of some, the names and Fixed as they are, and what is no Area as it is.
func TestNormEach(t *testing.T) {
	for _, l := range [][]api.Ref{corners([]int{0, 1, 2}, []int{0, 1, 2}), corners(extremes, []int{math.MinInt, 0, math.MaxInt})} {
		for i, r := range l {
			r.Sheet, r.To, r.Fixed = []string{"", "a", "a:b", "\xff"}[i%4], []string{"", "x y", "'"}[i%3], i%5 < 2
			want := r
			if want.A.Row > want.B.Row {
				want.A.Row, want.A.AbsRow, want.B.Row, want.B.AbsRow = r.B.Row, r.B.AbsRow, r.A.Row, r.A.AbsRow
			}
			if want.A.Col > want.B.Col {
				want.A.Col, want.A.AbsCol, want.B.Col, want.B.AbsCol = r.B.Col, r.B.AbsCol, r.A.Col, r.A.AbsCol
			}
			wantNorm(t, r, want)
			wantNorm(t, want, want)
			r.Area = false
			wantNorm(t, r, r)
		}
	}
}

// wrapped is how many there are from one number to another, as an int that wraps round holds it.
func wrapped(from, to int) int {
	n := new(big.Int).Sub(big.NewInt(int64(max(from, to))), big.NewInt(int64(min(from, to))))
	n.Add(n, big.NewInt(1))
	n.And(n, new(big.Int).SetUint64(math.MaxUint64))
	return int(n.Uint64())
}

func wantSize(t *testing.T, r api.Ref, rows, cols int) {
	t.Helper()
	if n, m := refs.Size(r); n != rows || m != cols {
		t.Errorf("Size(%s): %d, %d, want %d, %d", told(r), n, m, rows, cols)
	}
}

// P11.4: how many rows and columns, of any corners.
func TestSize(t *testing.T) {
	for _, l := range [][]api.Ref{corners([]int{0, 1, 5}, []int{0, 2, 9}), corners(extremes, []int{math.MinInt, -7, 0, math.MaxInt})} {
		for _, r := range l {
			wantSize(t, r, wrapped(r.A.Row, r.B.Row), wrapped(r.A.Col, r.B.Col))
			r.Area = false
			wantSize(t, r, 1, 1)
		}
	}
	wantSize(t, api.Ref{Area: true, B: api.Corner{Row: 2, Col: 1}}, 3, 2)
	wantSize(t, api.Ref{Area: true, A: api.Corner{Row: 2}, B: api.Corner{Col: 1}}, 3, 2)
	wantSize(t, api.Ref{Area: true, A: api.Corner{Row: api.MaxRows - 1, Col: api.MaxCols - 1}}, api.MaxRows, api.MaxCols)
	wantSize(t, api.Ref{Area: true, A: api.Corner{Row: math.MinInt}, B: api.Corner{Row: math.MaxInt}}, 0, 1)
	wantSize(t, api.Ref{Area: true, A: api.Corner{Col: math.MaxInt}, B: api.Corner{Col: 0}}, 1, math.MinInt)
	wantSize(t, api.Ref{}, 1, 1)
}

// P11.4: whether a cell lies in a reference, of any corners; its sheets and $ count for nothing.
func TestHas(t *testing.T) {
	for i, r := range corners([]int{0, 1, 3}, []int{0, 1, 3}) {
		r.Sheet, r.To, r.Fixed, r.Area = []string{"", "a", "\xff"}[i%3], []string{"", "b"}[i%2], i%5 == 0, i%7 > 1
		cells := cellsOf(r)
		for row := -1; row <= 4; row++ {
			for col := -1; col <= 4; col++ {
				c := api.Cell{Row: row, Col: col}
				if got := refs.Has(r, c); got != cells[c] {
					t.Errorf("Has(%s, %s): %v", told(r), told(c), got)
				}
			}
		}
	}
	for _, a := range extremes {
		for _, b := range extremes {
			for _, n := range extremes {
				want := a <= n && n <= b || b <= n && n <= a
				down := api.Ref{Area: true, A: api.Corner{Row: a, Col: 4}, B: api.Corner{Row: b, Col: 4}}
				across := api.Ref{Area: true, A: api.Corner{Row: 4, Col: a}, B: api.Corner{Row: 4, Col: b}}
				if refs.Has(down, api.Cell{Row: n, Col: 4}) != want || refs.Has(across, api.Cell{Row: 4, Col: n}) != want {
					t.Errorf("Has of %d to %d, %d: not %v", a, b, n, want)
				}
				down.Area, across.Area = false, false
				if refs.Has(down, api.Cell{Row: n, Col: 4}) != (n == a) || refs.Has(across, api.Cell{Row: 4, Col: n}) != (n == a) {
					t.Errorf("Has of the cell %d, %d: not %v", a, n, n == a)
				}
			}
		}
	}
}

func wantCommon(t *testing.T, a, b, want api.Ref, is bool) {
	t.Helper()
	if got, ok := refs.Common(a, b); got != want || ok != is {
		t.Errorf("Common(%s, %s): %s, %v, want %s, %v", told(a), told(b), told(got), ok, told(want), is)
	}
}

// area is an area of rows and columns.
func area(fromRow, fromCol, toRow, toCol int) api.Ref {
	return api.Ref{Area: true, A: api.Corner{Row: fromRow, Col: fromCol}, B: api.Corner{Row: toRow, Col: toCol}}
}

func cell(row, col int) api.Ref {
	return api.Ref{A: api.Corner{Row: row, Col: col}}
}

// P11.4: areas that touch, overlap, contain one another and lie apart, and cells.
func TestCommon(t *testing.T) {
	wantCommon(t, area(0, 0, 1, 1), area(1, 1, 2, 2), cell(1, 1), true)
	wantCommon(t, area(0, 0, 1, 1), area(0, 1, 2, 2), area(0, 1, 1, 1), true)
	wantCommon(t, area(0, 0, 1, 1), area(1, 0, 2, 2), area(1, 0, 1, 1), true)
	wantCommon(t, area(0, 0, 9, 9), area(2, 3, 4, 5), area(2, 3, 4, 5), true)
	wantCommon(t, area(2, 3, 4, 5), area(9, 9, 0, 0), area(2, 3, 4, 5), true)
	wantCommon(t, area(4, 3, 2, 5), area(4, 3, 2, 5), area(2, 3, 4, 5), true)
	wantCommon(t, area(0, 4, 9, 4), area(4, 0, 4, 9), cell(4, 4), true)
	wantCommon(t, area(0, 0, 1, 1), area(2, 0, 3, 1), api.Ref{}, false)
	wantCommon(t, area(0, 0, 1, 1), area(0, 2, 1, 3), api.Ref{}, false)
	wantCommon(t, area(5, 5, 6, 6), area(0, 0, 4, 9), api.Ref{}, false)
	wantCommon(t, area(5, 5, 6, 6), area(0, 0, 9, 4), api.Ref{}, false)
	wantCommon(t, cell(1, 1), area(0, 0, 2, 2), cell(1, 1), true)
	wantCommon(t, area(0, 0, 2, 2), cell(1, 1), cell(1, 1), true)
	wantCommon(t, cell(1, 1), cell(1, 1), cell(1, 1), true)
	wantCommon(t, cell(1, 1), cell(1, 2), api.Ref{}, false)
	wantCommon(t, cell(0, 0), cell(1, 0), api.Ref{}, false)
	wantCommon(t, area(3, 3, 3, 3), area(3, 3, 3, 3), cell(3, 3), true)
	low, high := math.MinInt, math.MaxInt
	wantCommon(t, area(low, low, high, high), area(high, low, low, high), area(low, low, high, high), true)
	wantCommon(t, area(low, low, -1, high), area(0, low, high, high), api.Ref{}, false)
	wantCommon(t, area(low, low, 0, 0), area(0, 0, high, high), cell(0, 0), true)
	wantCommon(t, cell(low, high), area(high, high, low, low), cell(low, high), true)
	wantCommon(t, cell(low, 0), cell(high, 0), api.Ref{}, false)
}

// P11.4: the sheets and Fixed are the first one's, and no $ is kept.
func TestCommonSheets(t *testing.T) {
	signed := func(r api.Ref) api.Ref {
		r.A.AbsRow, r.A.AbsCol = true, true
		if r.Area {
			r.B.AbsRow, r.B.AbsCol = true, true
		}
		return r
	}
	for _, a := range []api.Ref{{}, {Sheet: "a"}, {Sheet: "a", Fixed: true}, {Sheet: "a", To: "b"}, {To: "b", Fixed: true}, {Sheet: "\xff", To: "'"}} {
		for _, b := range []api.Ref{{}, {Sheet: "c", To: "d", Fixed: true}} {
			for _, pair := range [][3]api.Ref{{area(0, 0, 3, 3), area(1, 1, 9, 9), area(1, 1, 3, 3)}, {area(0, 0, 3, 3), area(3, 3, 9, 9), cell(3, 3)}, {cell(2, 2), area(0, 0, 9, 9), cell(2, 2)}, {area(0, 0, 9, 9), cell(2, 2), cell(2, 2)}} {
				first, second, want := signed(pair[0]), signed(pair[1]), pair[2]
				first.Sheet, first.To, first.Fixed = a.Sheet, a.To, a.Fixed
				second.Sheet, second.To, second.Fixed = b.Sheet, b.To, b.Fixed
				want.Sheet, want.To, want.Fixed = a.Sheet, a.To, a.Fixed
				wantCommon(t, first, second, want, true)
			}
		}
	}
	// what is no Area has no B that counts
	odd := cell(2, 2)
	odd.B = api.Corner{Row: 8, Col: 8, AbsRow: true}
	wantCommon(t, odd, area(0, 0, 9, 9), cell(2, 2), true)
	wantCommon(t, area(0, 0, 9, 9), odd, cell(2, 2), true)
	wantCommon(t, odd, cell(5, 5), api.Ref{}, false)
}

// P11.4: each two areas and cells within a few rows and columns, held against the cells one by one.
func TestCommonEach(t *testing.T) {
	var all []api.Ref
	for i, r := range corners([]int{0, 1, 2}, []int{-1, 0, 1}) {
		if i%16 == i/16%16 {
			all = append(all, r)
		}
	}
	for _, r := range all[:9] {
		r.Area = false
		all = append(all, r)
	}
	for _, a := range all {
		for _, b := range all {
			var both []api.Cell
			theirs := cellsOf(b)
			for c := range cellsOf(a) {
				if theirs[c] {
					both = append(both, c)
				}
			}
			want := api.Ref{}
			for i, c := range both {
				if i == 0 {
					want = area(c.Row, c.Col, c.Row, c.Col)
				}
				want = area(min(want.A.Row, c.Row), min(want.A.Col, c.Col), max(want.B.Row, c.Row), max(want.B.Col, c.Col))
			}
			if len(both) == 1 {
				want.Area, want.B = false, api.Corner{}
			}
			wantCommon(t, a, b, want, len(both) > 0)
		}
	}
}
