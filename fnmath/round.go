package fnmath

import (
	"math"

	"gridiron/api"
	"gridiron/array"
	"gridiron/value"
)

// mostPlaces is how many places behind the point, or ahead of it, a number is rounded to.
const mostPlaces = 20

// rounded rounds a number to n places behind its point, by what a function makes of its amount.
func rounded(f func(y float64) float64) func(x, n float64) api.Value {
	return func(x, n float64) api.Value {
		switch {
		case n > mostPlaces:
			return value.Reckon(x)
		case n < -mostPlaces:
			return value.Num(0)
		case n < 0:
			p := tens(-n)
			return value.Reckon(math.Copysign(float64(f(math.Abs(x)/p)*p), x))
		}
		p := tens(n)
		y := float64(math.Abs(x) * p)
		if math.IsInf(y, 1) {
			return value.Reckon(x)
		}
		return value.Reckon(math.Copysign(f(y)/p, x))
	}
}

// roundedUp is rounded away from 0: there is no number so far away, if all places ahead of the point are too few.
func roundedUp(x, n float64) api.Value {
	if n < -mostPlaces && x != 0 {
		return noNumber()
	}
	return rounded(math.Ceil)(x, n)
}

// tens is 1, n times multiplied by 10.
func tens(n float64) float64 {
	p := 1.0
	for range int(n) {
		p *= 10
	}
	return p
}

func halfUp(y float64) float64 { return math.Floor(y + 0.5) }

// multiple is the multiple of y that is nearest to x.
func multiple(x, y float64) api.Value {
	switch {
	case y == 0:
		return value.Num(0)
	case x > 0 && y < 0 || x < 0 && y > 0:
		return noNumber()
	}
	return value.Reckon(halfUp(x/y) * y)
}

// steps is a multiple of y beside x, by what a function makes of their quotient.
func steps(f func(q float64) float64) func(x, y float64) api.Value {
	return func(x, y float64) api.Value {
		switch {
		case y == 0:
			return value.Num(0)
		case x > 0 && y < 0:
			return noNumber()
		}
		return value.Reckon(f(x/y) * y)
	}
}

// mostParity is the greatest amount beside which floats have each whole number.
const mostParity = 1 << 52

// toParity goes away from 0 to the next whole number that has a rest, when it is divided by 2.
func toParity(rest float64) func(x float64) api.Value {
	return func(x float64) api.Value {
		size := math.Abs(x)
		if size > mostParity {
			return noNumber()
		}
		n := math.Ceil(size)
		if math.Mod(n, 2) != rest {
			n++
		}
		return value.Reckon(math.Copysign(n, x))
	}
}

// divided is what a function makes of two numbers, the second of which divides.
func divided(f func(x, y float64) float64) func(x, y float64) api.Value {
	return func(x, y float64) api.Value {
		if y == 0 {
			return value.Err(api.EDiv)
		}
		return value.Reckon(f(x, y))
	}
}

func remainder(x, y float64) float64 { return x - float64(y*math.Floor(x/y)) }

func quotient(x, y float64) float64 { return math.Trunc(x / y) }

// power is x to the y, where operators have it.
func power(x, y float64) api.Value {
	return array.Binary(api.NPow, value.Num(x), value.Num(y))
}

// root is a number's square root; of one below 0 the library has a NaN, which is no number.
func root(x float64) api.Value { return value.Reckon(math.Sqrt(x)) }

func sign(x float64) float64 {
	switch {
	case x < 0:
		return -1
	case x > 0:
		return 1
	}
	return 0
}
