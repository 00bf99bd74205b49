package fnstat

import (
	"cmp"
	"slices"

	"gridiron/api"
	"gridiron/array"
	"gridiron/given"
)

// Numbers are the numbers of an argument, or the code of the first error among them; with all, texts and truths of an area are numbers, too.
func Numbers(a api.Arg, all bool) ([]float64, int) {
	if array.CheckArg(a) != api.OK {
		return nil, api.EValue
	}
	return numbersOf(all, a)
}

// numbersOf are the numbers of arguments that may be, one behind the other, or the code of the first error among them.
func numbersOf(all bool, args ...api.Arg) ([]float64, int) {
	var out []float64
	for _, a := range args {
		for _, p := range given.Counting(a) {
			switch v := p.Val; {
			case v.Kind == api.VErr:
				return nil, v.Err
			case v.Kind == api.VNum:
				out = append(out, v.Num)
			case all && v.Yes:
				out = append(out, 1)
			case all:
				out = append(out, 0)
			}
		}
	}
	return out, 0
}

// Sum is the sum of numbers, from the first one on.
func Sum(l []float64) float64 {
	total := 0.0
	for _, x := range l {
		total += x
	}
	return total
}

// Mean is the mean of numbers, 0 of none.
func Mean(l []float64) float64 {
	if len(l) == 0 {
		return 0
	}
	return Sum(l) / float64(len(l))
}

// Square is the sum of the squares of what numbers are off their mean.
func Square(l []float64) float64 {
	d := off(l)
	return products(d, d)
}

// off is what numbers are off their mean.
func off(l []float64) []float64 {
	m := Mean(l)
	return each(l, func(x float64) float64 { return x - m })
}

// products is the sum of the products of as many numbers as there are others.
func products(x, y []float64) float64 {
	total := 0.0
	for i := range x {
		total += float64(x[i] * y[i])
	}
	return total
}

// each is what a function makes of each number.
func each(l []float64, f func(x float64) float64) []float64 {
	out := make([]float64, 0, len(l))
	for _, x := range l {
		out = append(out, f(x))
	}
	return out
}

// sorted is numbers in an order, as many as they are.
func sorted(l []float64, order func(x, y float64) int) []float64 {
	out := slices.Clone(l)
	slices.SortFunc(out, order)
	return out
}

func rising(x, y float64) int { return cmp.Compare(x, y) }

func falling(x, y float64) int { return cmp.Compare(y, x) }
