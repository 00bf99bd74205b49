package fnstat

import (
	"math"

	"gridiron/api"
	"gridiron/given"
	"gridiron/value"
)

// pairs is what a function makes of the numbers of two areas that stand at the same places.
func pairs(f func(x, y []float64) api.Value) func(args []api.Arg) api.Value {
	return func(args []api.Arg) api.Value {
		a, b := args[0], args[1]
		if a.Rows != b.Rows || a.Cols != b.Cols {
			return value.Err(api.ENA)
		}
		for _, area := range args {
			for _, p := range area.Cells {
				if p.Val.Kind == api.VErr {
					return p.Val
				}
			}
		}
		var x, y []float64
		for v := range given.Places(a, b) {
			if v[0].Kind == api.VNum && v[1].Kind == api.VNum {
				x, y = append(x, v[0].Num), append(y, v[1].Num)
			}
		}
		return f(x, y)
	}
}

func covariance(x, y []float64) api.Value {
	if len(x) == 0 {
		return value.Err(api.EDiv)
	}
	return value.Reckon(products(off(x), off(y)) / float64(len(x)))
}

func correlation(x, y []float64) api.Value {
	a, b := Square(x), Square(y)
	if a == 0 || b == 0 {
		return value.Err(api.EDiv)
	}
	return value.Reckon(products(off(x), off(y)) / math.Sqrt(float64(a*b)))
}

func correlationSquare(x, y []float64) api.Value {
	r := correlation(x, y)
	if r.Kind == api.VErr {
		return r
	}
	return value.Reckon(r.Num * r.Num)
}

// slope is how much the line through pairs rises; their second numbers lie across.
func slope(y, x []float64) api.Value {
	across := Square(x)
	if across == 0 {
		return value.Err(api.EDiv)
	}
	return value.Reckon(products(off(x), off(y)) / across)
}

// height is how high the line through pairs is at a place.
func height(at float64) func(y, x []float64) api.Value {
	return func(y, x []float64) api.Value {
		rise := slope(y, x)
		if rise.Kind == api.VErr {
			return rise
		}
		start := Mean(y) - float64(rise.Num*Mean(x))
		return value.Reckon(start + float64(rise.Num*at))
	}
}

// forecast is how high the line through pairs is at the place that is its first argument.
func forecast(args []api.Arg) api.Value {
	at := given.Number(args[0])
	if at.Kind == api.VErr {
		return at
	}
	return pairs(height(at.Num))(args[1:])
}
