package array

import (
	"math"

	"gridiron/api"
	"gridiron/value"
)

// CheckArg tells whether an argument may be.
func CheckArg(a api.Arg) api.Errno {
	if !laid(a) {
		return api.ErrArg
	}
	for _, p := range a.Cells {
		if errno := value.Check(p.Val); errno != api.OK {
			return errno
		}
	}
	return api.OK
}

// laid tells whether an argument's area and places are so as they may be.
func laid(a api.Arg) bool {
	if a.Rows < 1 || a.Rows > api.MaxRows || a.Cols < 1 || a.Cols > api.MaxCols {
		return false
	}
	if a.Miss && (a.Rows > 1 || a.Cols > 1 || len(a.Cells) > 0) {
		return false
	}
	next := 0 // the number of the first place that may be told
	for _, p := range a.Cells {
		if p.Row < 0 || p.Row >= a.Rows || p.Col < 0 || p.Col >= a.Cols || p.Val.Kind == api.VEmpty {
			return false
		}
		place := p.Row*a.Cols + p.Col
		if place < next {
			return false
		}
		next = place + 1
	}
	return true
}

// Dense is an argument as an array, if it has no more places than an array may have.
func Dense(a api.Arg) (api.Arr, bool) {
	if CheckArg(a) != api.OK || a.Rows*a.Cols > api.MaxArea {
		return api.Arr{}, false
	}
	out := api.Arr{Rows: a.Rows, Cols: a.Cols, Vals: make([]api.Value, a.Rows*a.Cols)}
	for _, p := range a.Cells {
		out.Vals[p.Row*a.Cols+p.Col] = own(p.Val)
	}
	return out, true
}

// Sparse is an array as an argument, the zero one, if an argument can't be so.
func Sparse(a api.Arr) api.Arg {
	if Check(a) != api.OK || a.Cols > api.MaxCols {
		return api.Arg{}
	}
	out := api.Arg{Rows: a.Rows, Cols: a.Cols}
	for row := range a.Rows {
		for col := range a.Cols {
			if v := At(a, row, col); v.Kind != api.VEmpty {
				out.Cells = append(out.Cells, api.Place{Row: row, Col: col, Val: v})
			}
		}
	}
	return out
}

// Single is an argument as a single value.
func Single(a api.Arg) api.Value {
	if CheckArg(a) != api.OK || !onePlace(a) {
		return value.Err(api.EValue)
	}
	// one that was left out has one place, of which nothing is told
	return told(a, 0, 0)
}

func onePlace(a api.Arg) bool {
	return a.Rows == 1 && a.Cols == 1
}

// told is what an argument tells of a place within it: empty, if that is nothing.
func told(a api.Arg, row, col int) api.Value {
	for _, p := range a.Cells {
		if p.Row == row && p.Col == col {
			return own(p.Val)
		}
	}
	return api.Value{}
}

// Cut is what an area that stands at top and left is for the cell at row and col: of a column the value in its row, of a row that in its column.
func Cut(a api.Arg, top, left, row, col int) api.Value {
	switch {
	case CheckArg(a) != api.OK || onePlace(a):
		return Single(a)
	case a.Cols == 1 && among(row, top, a.Rows):
		return told(a, row-top, 0)
	case a.Rows == 1 && among(col, left, a.Cols):
		return told(a, 0, col-left)
	}
	return value.Err(api.EValue)
}

// among tells whether a row or column is one of the n from first on; none is, if the last of them is no int.
func among(line, first, n int) bool {
	return first <= math.MaxInt-(n-1) && first <= line && line <= first+(n-1)
}
