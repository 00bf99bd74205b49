// Package given is what functions of formulas take from the arguments that they are given.
// It is rule R7 of shared/DOC.md, which holds for layers 17 to 21.
package given

import (
	"math"

	"gridiron/api"
	"gridiron/array"
	"gridiron/value"
)

// Fit tells whether a function that takes from least to most arguments can be asked of these.
func Fit(args []api.Arg, least, most int) bool {
	if len(args) < least || len(args) > most {
		return false
	}
	for _, a := range args {
		if array.CheckArg(a) != api.OK {
			return false
		}
	}
	return true
}

// Missing is an argument that was left out.
func Missing() api.Arg {
	return api.Arg{Miss: true, Rows: 1, Cols: 1}
}

// Number is the single value of an argument as a number, or an error.
func Number(a api.Arg) api.Value {
	return value.AsNumber(array.Single(a))
}

// farthest is the greatest amount that a whole number may have.
const farthest = 1 << 53

// Whole is the single value of an argument as a whole number, or an error.
func Whole(a api.Arg) api.Value {
	v := Number(a)
	if v.Kind == api.VErr {
		return v
	}
	n := math.Floor(v.Num)
	if math.Abs(n) > farthest {
		return value.Err(api.ENum)
	}
	return value.Num(n)
}

// Text is the single value of an argument as a text, or an error.
func Text(a api.Arg) api.Value {
	return value.AsText(array.Single(a))
}

// Or is a way to take an argument that may be left out: instead of an empty value it has another one.
func Or(take func(a api.Arg) api.Value, other api.Value) func(a api.Arg) api.Value {
	return func(a api.Arg) api.Value {
		if array.Single(a).Kind == api.VEmpty {
			return other
		}
		return take(a)
	}
}

// Numbers are the numbers of some arguments, one behind the other, and true; or the first error among them, and false.
func Numbers(args ...api.Arg) ([]float64, api.Value, bool) {
	var out []float64
	for _, a := range args {
		for _, p := range Counting(a) {
			switch p.Val.Kind {
			case api.VErr:
				return nil, p.Val, false
			case api.VNum:
				out = append(out, p.Val.Num)
			}
		}
	}
	return out, api.Value{}, true
}

// Counting are the places of an argument among which its numbers are; a single value that is no reference's counts as a number, whatever it is.
func Counting(a api.Arg) []api.Place {
	if a.Ref || a.Miss || a.Rows > 1 || a.Cols > 1 {
		return a.Cells
	}
	return []api.Place{{Val: Number(a)}}
}
