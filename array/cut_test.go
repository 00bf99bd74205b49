package array_test

import (
	"fmt"
	"math"
	"testing"

	"gridiron/api"
	"gridiron/array"
)

func wantCut(t *testing.T, a api.Arg, top, left, row, col int, want api.Value) {
	t.Helper()
	wantValue(t, fmt.Sprintf("Cut(%s, %d, %d, %d, %d)", told(a), top, left, row, col), array.Cut(a, top, left, row, col), want)
}

// line is an area of one column or one row, of three places, of which the middle one is not told.
func line(across bool) api.Arg {
	if across {
		return area(1, 3, at(0, 0, num(1)), at(0, 2, num(3)))
	}
	return area(3, 1, at(0, 0, num(1)), at(2, 0, num(3)))
}

// P16.6: a column or a row that stands somewhere, each place of it and those beside it; the other line may be any.
func TestCut(t *testing.T) {
	want := map[int]api.Value{-1: fault(api.EValue), 0: num(1), 1: {}, 2: num(3), 3: fault(api.EValue)}
	far := []int{math.MinInt, -1, 0, 5, math.MaxInt}
	for _, first := range []int{math.MinInt + 1, -100, -1, 0, 1, 4, 1 << 40, math.MaxInt - 3} {
		for off, v := range want {
			for _, other := range far {
				for _, cell := range far {
					wantCut(t, line(false), first, other, first+off, cell, v)
					wantCut(t, line(true), other, first, cell, first+off, v)
				}
			}
		}
		for _, distant := range far {
			if distant < first-1 || distant > first+3 {
				wantCut(t, line(false), first, 0, distant, 0, fault(api.EValue))
				wantCut(t, line(true), 0, first, 0, distant, fault(api.EValue))
			}
		}
	}
}

// P16.6: the greatest and the least int; where the last row or column would be none, no place is meant.
func TestCutAtEnds(t *testing.T) {
	least, most := math.MinInt, math.MaxInt
	for _, across := range []bool{false, true} {
		for _, x := range []struct {
			first, at int
			want      api.Value
		}{
			{least, least, num(1)}, {least, least + 1, api.Value{}}, {least, least + 2, num(3)}, {least, least + 3, fault(api.EValue)}, {least, most, fault(api.EValue)}, {least, -1, fault(api.EValue)}, {least, 0, fault(api.EValue)},
			{most - 2, most - 2, num(1)}, {most - 2, most - 1, api.Value{}}, {most - 2, most, num(3)}, {most - 2, most - 3, fault(api.EValue)}, {most - 2, least, fault(api.EValue)},
			{most - 1, most - 1, fault(api.EValue)}, {most - 1, most, fault(api.EValue)}, {most - 1, least, fault(api.EValue)}, {most, most, fault(api.EValue)}, {most, least, fault(api.EValue)}, {most, least + 1, fault(api.EValue)}, {most, 0, fault(api.EValue)},
		} {
			if across {
				wantCut(t, line(true), 0, x.first, 0, x.at, x.want)
			} else {
				wantCut(t, line(false), x.first, 0, x.at, 0, x.want)
			}
		}
	}
	tall, wide := area(api.MaxRows, 1, at(api.MaxRows-1, 0, num(9))), area(1, api.MaxCols, at(0, api.MaxCols-1, num(9)))
	wantCut(t, tall, 0, 3, api.MaxRows-1, 7, num(9))
	wantCut(t, tall, 0, 3, api.MaxRows, 3, fault(api.EValue))
	wantCut(t, tall, 1, 3, api.MaxRows, 3, num(9))
	wantCut(t, wide, 3, 0, 7, api.MaxCols-1, num(9))
	wantCut(t, wide, 3, 0, 3, api.MaxCols, fault(api.EValue))
	wantCut(t, wide, 3, most-api.MaxCols+1, 3, most, num(9))
	wantCut(t, wide, 3, most-api.MaxCols+2, 3, most, fault(api.EValue))
}

// P16.6: of one place it is that place, wherever the cell is; so of one that was left out, and of what may not be.
func TestCutSingle(t *testing.T) {
	places := []int{math.MinInt, -1, 0, 1, math.MaxInt}
	for _, top := range places {
		for _, row := range places {
			wantCut(t, area(1, 1, at(0, 0, text("a"))), top, row, row, top, text("a"))
			wantCut(t, area(1, 1), top, row, row, top, api.Value{})
			wantCut(t, missing(), top, row, row, top, api.Value{})
			wantCut(t, area(2, 2, at(0, 0, num(1))), top, top, row, row, fault(api.EValue))
			wantCut(t, area(2, 2, at(0, 0, num(1))), top, top, top, top, fault(api.EValue))
			wantCut(t, area(3, 2, at(0, 0, num(1))), top, row, top, row, fault(api.EValue))
			wantCut(t, area(2, 3, at(0, 0, num(1))), top, row, top, row, fault(api.EValue))
		}
	}
	for _, a := range wrongArgs() {
		wantCut(t, a, 0, 0, 0, 0, fault(api.EValue))
		wantCut(t, a, 0, 0, 2, 2, fault(api.EValue))
	}
}

// P16.6: each kind of value, in each place of a column and a row.
func TestCutValues(t *testing.T) {
	for _, v := range formed() {
		if v.Kind == api.VEmpty {
			continue
		}
		for i := range 4 {
			wantCut(t, area(4, 1, at(i, 0, v)), 10, 20, 10+i, 20, v)
			wantCut(t, area(1, 4, at(0, i, v)), 10, 20, 10, 20+i, v)
			wantCut(t, area(4, 1, at(i, 0, v)), 10, 20, 10+(i+1)%4, 20, api.Value{})
			wantCut(t, area(1, 4, at(0, i, v)), 10, 20, 10, 20+(i+1)%4, api.Value{})
		}
	}
}

// P16.6: drawn areas and cells.
func TestCutDrawn(t *testing.T) {
	d := draws(7)
	for range 8000 {
		a := d.argument()
		top, left := pick(&d, 0, 1, 7, math.MaxInt-a.Rows, math.MaxInt-a.Rows+1, math.MinInt), pick(&d, 0, 1, 7, math.MaxInt-a.Cols, math.MaxInt-a.Cols+1, math.MinInt)
		row, col := top+d.below(6)-1, left+d.below(6)-1
		wantCut(t, a, top, left, row, col, modelCut(a, top, left, row, col))
	}
}
