package fnstat

import (
	"gridiron/api"
	"gridiron/given"
	"gridiron/value"
)

// count is how many numbers arguments have, whatever errors stand among them.
func count(args []api.Arg) api.Value {
	n := 0
	for _, a := range args {
		for _, p := range given.Counting(a) {
			if p.Val.Kind == api.VNum {
				n++
			}
		}
	}
	return value.Num(float64(n))
}

// countTold is how many places of arguments are not empty.
func countTold(args []api.Arg) api.Value {
	n := 0
	for _, a := range args {
		n += len(a.Cells)
	}
	return value.Num(float64(n))
}

// countBlank is how many places of an argument are empty, or look so.
func countBlank(args []api.Arg) api.Value {
	a := args[0]
	n := a.Rows*a.Cols - len(a.Cells)
	for _, p := range a.Cells {
		if p.Val.Kind == api.VText && p.Val.Text == "" {
			n++
		}
	}
	return value.Num(float64(n))
}
