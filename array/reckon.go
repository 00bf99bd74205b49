package array

import (
	"math"
	"math/bits"

	"gridiron/api"
	"gridiron/value"
)

// mostSquared is the greatest whole exponent for which powers are made by squaring.
const mostSquared = 1024

func negative(x float64) float64 { return -x }

func hundredth(x float64) float64 { return x / 100 }

func product(x, y float64) api.Value { return value.Reckon(x * y) }

func sum(x, y float64) api.Value { return value.Reckon(x + y) }

func difference(x, y float64) api.Value { return value.Reckon(x - y) }

func quotient(x, y float64) api.Value {
	if y == 0 {
		return value.Err(api.EDiv)
	}
	return value.Reckon(x / y)
}

// power is x to the y: of whole numbers y and of the half alone.
func power(x, y float64) api.Value {
	switch {
	case x == 0 && y == 0:
		return value.Err(api.ENum)
	case x == 0 && y < 0:
		return value.Err(api.EDiv)
	case y == math.Trunc(y) && math.Abs(y) <= mostSquared:
		return wholePower(x, y)
	case y == 0.5:
		// the library's root of what is below 0 is a NaN
		return value.Reckon(math.Sqrt(x))
	}
	return value.Err(api.ENum)
}

// wholePower is x to the whole number y.
func wholePower(x, y float64) api.Value {
	p := squared(x, uint(math.Abs(y)))
	if y < 0 {
		p = 1 / p
	}
	return value.Reckon(p)
}

// squared is x, n times multiplied, by the bits of n from the highest on; it may come to an infinity or to 0 on the way.
func squared(x float64, n uint) float64 {
	p := 1.0
	length := bits.Len(n)
	for i := range length {
		p = float64(p * p)
		if n>>(length-1-i)&1 == 1 {
			p = float64(p * x)
		}
	}
	return p
}

// joined is one text behind the other, if a text may be as long.
func joined(s, t string) api.Value {
	if len(s)+len(t) > api.MaxText {
		return value.Err(api.ELimit)
	}
	// a text beside an empty one would be that text itself, not a copy
	return own(value.Text(s + t))
}
