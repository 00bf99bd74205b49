package fnstat

import (
	"cmp"
	"slices"

	"gridiron/api"
	"gridiron/array"
	"gridiron/value"
)

// Numbers are the numbers of an argument, or the code of the first error among them; with all, texts and truths of an area are numbers, too.
func Numbers(a api.Arg, all bool) ([]float64, int) {
	if array.CheckArg(a) != api.OK {
		return nil, api.EValue
	}
	if a.Miss {
		return nil, 0
	}
	if alone(a) {
		v := value.AsNumber(array.Single(a))
		return appendNumber(nil, v, false)
	}
	var out []float64
	for _, p := range a.Cells {
		l, wrong := appendNumber(out, p.Val, all)
		if wrong != 0 {
			return nil, wrong
		}
		out = l
	}
	return out, 0
}

// alone tells whether an argument is one value that no reference has.
func alone(a api.Arg) bool {
	return !a.Ref && a.Rows == 1 && a.Cols == 1
}

// appendNumber is numbers with that of a value behind them, if it counts for one; or an error's code.
func appendNumber(l []float64, v api.Value, all bool) ([]float64, int) {
	switch {
	case v.Kind == api.VErr:
		return nil, v.Err
	case v.Kind == api.VNum:
		return append(l, v.Num), 0
	case all && v.Yes:
		return append(l, 1), 0
	case all:
		return append(l, 0), 0
	}
	return l, 0
}

// numbersOf are the numbers of several arguments, one behind the other, or the code of the first error among them.
func numbersOf(all bool, args ...api.Arg) ([]float64, int) {
	var out []float64
	for _, a := range args {
		l, wrong := Numbers(a, all)
		if wrong != 0 {
			return nil, wrong
		}
		out = append(out, l...)
	}
	return out, 0
}

// Sum is the sum of numbers, from the first one on.
func Sum(l []float64) float64 {
	total := 0.0
	for _, x := range l {
		total += x
	}
	return total
}

// Mean is the mean of numbers, 0 of none.
func Mean(l []float64) float64 {
	if len(l) == 0 {
		return 0
	}
	return Sum(l) / float64(len(l))
}

// Square is the sum of the squares of what numbers are off their mean.
func Square(l []float64) float64 {
	d := off(l)
	return products(d, d)
}

// off is what numbers are off their mean.
func off(l []float64) []float64 {
	m := Mean(l)
	return each(l, func(x float64) float64 { return x - m })
}

// products is the sum of the products of as many numbers as there are others.
func products(x, y []float64) float64 {
	total := 0.0
	for i := range x {
		total += float64(x[i] * y[i])
	}
	return total
}

// each is what a function makes of each number.
func each(l []float64, f func(x float64) float64) []float64 {
	out := make([]float64, 0, len(l))
	for _, x := range l {
		out = append(out, f(x))
	}
	return out
}

// sorted is numbers in an order, as many as they are.
func sorted(l []float64, order func(x, y float64) int) []float64 {
	out := slices.Clone(l)
	slices.SortFunc(out, order)
	return out
}

func rising(x, y float64) int { return cmp.Compare(x, y) }

func falling(x, y float64) int { return cmp.Compare(y, x) }
