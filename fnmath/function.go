package fnmath

import (
	"gridiron/api"
	"gridiron/given"
	"gridiron/value"
)

// function is how many arguments a function takes, and what it answers of them; without an answer it is none.
type function struct {
	least, most int
	answer      func(args []api.Arg) api.Value
}

// take is how a function takes one of its arguments, and whether that may be left away.
type take struct {
	as  func(a api.Arg) api.Value
	may bool
}

func number() take { return take{as: given.Number} }

func whole() take { return take{as: given.Whole} }

func text() take { return take{as: given.Text} }

func numberOr(x float64) take { return take{given.Or(given.Number, value.Num(x)), true} }

func wholeOr(n float64) take { return take{given.Or(given.Whole, value.Num(n)), true} }

// of is the function that takes single values, and makes something of them.
func of(f func(v ...api.Value) api.Value, takes ...take) function {
	least := 0
	for _, t := range takes {
		if !t.may {
			least++
		}
	}
	return function{least, len(takes), func(args []api.Arg) api.Value {
		v, wrong, is := singles(args, takes...)
		if !is {
			return wrong
		}
		return f(v...)
	}}
}

// singles are single values of arguments, and true; or the first error among them, and false.
func singles(args []api.Arg, takes ...take) ([]api.Value, api.Value, bool) {
	var out []api.Value
	for i, t := range takes {
		a := given.Missing()
		if i < len(args) {
			a = args[i]
		}
		v := t.as(a)
		if v.Kind == api.VErr {
			return nil, v, false
		}
		out = append(out, v)
	}
	return out, api.Value{}, true
}

// one is the function of a single number.
func one(f func(x float64) api.Value, first take) function {
	return of(func(v ...api.Value) api.Value { return f(v[0].Num) }, first)
}

// two is the function of two single numbers.
func two(f func(x, y float64) api.Value, first, second take) function {
	return of(func(v ...api.Value) api.Value { return f(v[0].Num, v[1].Num) }, first, second)
}

// list is the function of the numbers of any arguments.
func list(f func(l ...float64) api.Value) function {
	return function{1, api.MaxArgs, func(args []api.Arg) api.Value {
		l, wrong, is := given.Numbers(args...)
		if !is {
			return wrong
		}
		return f(l...)
	}}
}

// plain is a number that is reckoned by a function of floats.
func plain(f func(x float64) float64) func(x float64) api.Value {
	return func(x float64) api.Value { return value.Reckon(f(x)) }
}

// told is 1, if two numbers stand to each other as a function asks, else 0.
func told(f func(x, y float64) bool) func(x, y float64) api.Value {
	return func(x, y float64) api.Value {
		if f(x, y) {
			return value.Num(1)
		}
		return value.Num(0)
	}
}

func notBelow(x, y float64) bool { return x >= y }

func equal(x, y float64) bool { return x == y }

// noNumber is the answer where there is none that is a number.
func noNumber() api.Value { return value.Err(api.ENum) }
