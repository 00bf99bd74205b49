package fnstat

import (
	"math"

	"gridiron/api"
	"gridiron/array"
	"gridiron/given"
	"gridiron/value"
)

// function is how many arguments a function takes, and what it answers of them.
type function struct {
	least, most int
	answer      func(args []api.Arg) api.Arr
}

// table is the functions by their names.
func table() map[string]function {
	return map[string]function{
		"AVEDEV":      list(false, of(1, api.ENum, deviation)),
		"AVERAGE":     list(false, of(1, api.EDiv, Mean)),
		"AVERAGEA":    list(true, of(1, api.EDiv, Mean)),
		"AVERAGEIF":   one(2, 3, ifOne(of(1, api.EDiv, Mean))),
		"AVERAGEIFS":  one(3, api.MaxArgs, ifAll(of(1, api.EDiv, Mean))),
		"CORREL":      one(2, 2, pairs(correlation)),
		"COUNT":       one(1, api.MaxArgs, count),
		"COUNTA":      one(1, api.MaxArgs, countTold),
		"COUNTBLANK":  one(1, 1, countBlank),
		"COUNTIF":     one(2, 2, countIfs),
		"COUNTIFS":    one(2, api.MaxArgs, countIfs),
		"COVAR":       one(2, 2, pairs(covariance)),
		"DEVSQ":       list(false, of(1, api.ENum, Square)),
		"FORECAST":    one(3, 3, forecast),
		"FREQUENCY":   {2, 2, frequency},
		"HARMEAN":     list(false, of(1, api.ENum, harmonic)),
		"INTERCEPT":   one(2, 2, pairs(height(0))),
		"LARGE":       one(2, 2, ranked(given.Whole, atRank(falling))),
		"MAX":         list(false, of(0, 0, greatest)),
		"MAXA":        list(true, of(0, 0, greatest)),
		"MAXIFS":      one(3, api.MaxArgs, ifAll(of(0, 0, greatest))),
		"MEDIAN":      list(false, of(1, api.ENum, median)),
		"MIN":         list(false, of(0, 0, least)),
		"MINA":        list(true, of(0, 0, least)),
		"MINIFS":      one(3, api.MaxArgs, ifAll(of(0, 0, least))),
		"MODE":        list(false, mode),
		"PEARSON":     one(2, 2, pairs(correlation)),
		"PERCENTILE":  one(2, 2, ranked(given.Number, percentile)),
		"PERCENTRANK": one(2, 2, ranked(given.Number, percentRank)),
		"QUARTILE":    one(2, 2, ranked(given.Whole, quartile)),
		"RANK":        one(2, 3, rank),
		"RSQ":         one(2, 2, pairs(correlationSquare)),
		"SLOPE":       one(2, 2, pairs(slope)),
		"SMALL":       one(2, 2, ranked(given.Whole, atRank(rising))),
		"STANDARDIZE": one(3, 3, standardize),
		"STDEV":       list(false, of(2, api.EDiv, root(variance(1)))),
		"STDEVA":      list(true, of(2, api.EDiv, root(variance(1)))),
		"STDEVP":      list(false, of(1, api.EDiv, root(variance(0)))),
		"STDEVPA":     list(true, of(1, api.EDiv, root(variance(0)))),
		"SUMIF":       one(2, 3, ifOne(of(0, 0, Sum))),
		"SUMIFS":      one(3, api.MaxArgs, ifAll(of(0, 0, Sum))),
		"TRIMMEAN":    one(2, 2, ranked(given.Number, trimmed)),
		"VAR":         list(false, of(2, api.EDiv, variance(1))),
		"VARA":        list(true, of(2, api.EDiv, variance(1))),
		"VARP":        list(false, of(1, api.EDiv, variance(0))),
		"VARPA":       list(true, of(1, api.EDiv, variance(0))),
	}
}

// one is the function that answers one value.
func one(least, most int, f func(args []api.Arg) api.Value) function {
	return function{least, most, func(args []api.Arg) api.Arr { return array.One(f(args)) }}
}

// list is the function of the numbers of any arguments.
func list(all bool, f func(l []float64) api.Value) function {
	return one(1, api.MaxArgs, func(args []api.Arg) api.Value {
		l, wrong := numbersOf(all, args...)
		if wrong != 0 {
			return value.Err(wrong)
		}
		return f(l)
	})
}

// of is what a function reckons of numbers; of fewer than it needs, the error with a code.
func of(needs, code int, f func(l []float64) float64) func(l []float64) api.Value {
	return func(l []float64) api.Value {
		if len(l) < needs {
			return value.Err(code)
		}
		return value.Reckon(f(l))
	}
}

// ranked is what a function makes of one argument's numbers and a single number.
func ranked(take func(a api.Arg) api.Value, f func(l []float64, x float64) api.Value) func(args []api.Arg) api.Value {
	return func(args []api.Arg) api.Value {
		l, wrong := numbersOf(false, args[0])
		if wrong != 0 {
			return value.Err(wrong)
		}
		x := take(args[1])
		if x.Kind == api.VErr {
			return x
		}
		return f(l, x.Num)
	}
}

// root is the square root of what a function reckons.
func root(f func(l []float64) float64) func(l []float64) float64 {
	return func(l []float64) float64 { return math.Sqrt(f(l)) }
}
