package given

import (
	"iter"

	"gridiron/api"
)

// Places goes through the places of areas that are of one size, row by row, and has the values that they have there.
// It leaves out a place of which none of them tells anything: areas may have far more places than they tell of.
// The list of values is the same one at each place, since there may be very many of them.
func Places(areas ...api.Arg) iter.Seq[[]api.Value] {
	return func(yield func([]api.Value) bool) {
		next := make([]int, len(areas)) // of each area the first of its cells that was not gone through
		v := make([]api.Value, len(areas))
		for {
			here, is := firstPlace(areas, next)
			if !is {
				return
			}
			clear(v)
			for i, a := range areas {
				if next[i] < len(a.Cells) && place(a, next[i]) == here {
					v[i] = a.Cells[next[i]].Val
					next[i]++
				}
			}
			if !yield(v) {
				return
			}
		}
	}
}

// firstPlace is the first place that an area tells of, from its next cell on.
func firstPlace(areas []api.Arg, next []int) (int, bool) {
	first, is := 0, false
	for i, a := range areas {
		if next[i] == len(a.Cells) {
			continue
		}
		if here := place(a, next[i]); !is || here < first {
			first, is = here, true
		}
	}
	return first, is
}

// place is the number of the place at which a cell stands: row by row, from the left.
func place(a api.Arg, cell int) int {
	return a.Cells[cell].Row*a.Cols + a.Cells[cell].Col
}
