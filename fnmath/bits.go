package fnmath

import (
	"math"

	"gridiron/api"
	"gridiron/value"
)

const (
	mostBits  = 1<<48 - 1 // the greatest number whose bits are told
	mostShift = 53        // places that bits are shifted by
)

// hasBits tells whether a whole number is one whose bits are told.
func hasBits(n float64) bool { return n >= 0 && n <= mostBits }

// bitwise is what a function makes of the bits of two numbers.
func bitwise(f func(n, k uint64) uint64) func(n, k float64) api.Value {
	return func(n, k float64) api.Value {
		if !hasBits(n) || !hasBits(k) {
			return noNumber()
		}
		return value.Num(float64(f(uint64(n), uint64(k))))
	}
}

func and(n, k uint64) uint64 { return n & k }

func or(n, k uint64) uint64 { return n | k }

func xor(n, k uint64) uint64 { return n ^ k }

// shifted is a number whose bits are shifted by k places to the left, times the way that they go.
func shifted(way float64) func(n, k float64) api.Value {
	return func(n, k float64) api.Value {
		if !hasBits(n) || math.Abs(k) > mostShift {
			return noNumber()
		}
		left, right := uint64(max(way*k, 0)), uint64(max(-way*k, 0))
		// to the right, since bits that went to the left may leave their type
		if uint64(n) > mostBits>>left {
			return noNumber()
		}
		return value.Num(float64(uint64(n) << left >> right))
	}
}
