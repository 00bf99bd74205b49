package fnmath

import (
	"gridiron/api"
	"gridiron/given"
	"gridiron/value"
)

// areas is the function that goes through areas of one size, and adds up what a function makes of their values place by place; code is its error, if they are not of one size.
func areas(least, most, code int, f func(v ...api.Value) float64) function {
	return function{least, most, func(args []api.Arg) api.Value {
		if !alike(args) {
			return value.Err(code)
		}
		total := 0.0
		for v := range given.Places(args...) {
			if wrong, is := firstError(v); is {
				return wrong
			}
			total += f(v...)
		}
		return value.Reckon(total)
	}}
}

// alike tells whether areas are of one size, and none of them was left out.
func alike(args []api.Arg) bool {
	for _, a := range args {
		if a.Miss || a.Rows != args[0].Rows || a.Cols != args[0].Cols {
			return false
		}
	}
	return true
}

func firstError(l []api.Value) (api.Value, bool) {
	for _, v := range l {
		if v.Kind == api.VErr {
			return v, true
		}
	}
	return api.Value{}, false
}

// products is the product of values; what is no number is 0.
func products(l ...api.Value) float64 {
	p := 1.0
	for _, v := range l {
		p = float64(p * v.Num)
	}
	return p
}

// pairs is what a function makes of two numbers, and nothing, if one of two values is none.
func pairs(f func(x, y float64) float64) func(l ...api.Value) float64 {
	return func(l ...api.Value) float64 {
		if l[0].Kind != api.VNum || l[1].Kind != api.VNum {
			return 0
		}
		return f(l[0].Num, l[1].Num)
	}
}

func squaresLess(x, y float64) float64 { return float64(x*x) - float64(y*y) }

func squaresMore(x, y float64) float64 { return float64(x*x) + float64(y*y) }

func squareOfLess(x, y float64) float64 {
	d := x - y
	return float64(d * d)
}
