package fnmath

import (
	"math"

	"gridiron/api"
	"gridiron/value"
)

// draw is the first draw, or 0, if there is none that may be.
func draw(env api.Env) float64 {
	if len(env.Draws) == 0 {
		return 0
	}
	x := env.Draws[0]
	if x >= 0 && x < 1 {
		return x
	}
	return 0
}

// drawn is a draw itself.
func drawn(x float64) func(v ...api.Value) api.Value {
	return func(...api.Value) api.Value { return value.Reckon(x) }
}

// drawnBetween is the whole number from n to k that a draw leads to.
func drawnBetween(x float64) func(n, k float64) api.Value {
	return func(n, k float64) api.Value {
		if n > k {
			return noNumber()
		}
		at := n + math.Floor(x*(k-n+1))
		// sums of great numbers are rounded, and must not lead beyond the last one
		return value.Reckon(min(at, k))
	}
}
