package number

import (
	"math"
	"strconv"
	"strings"

	"gridiron/api"
)

const (
	mostPlaces = 30
	// allPlaces are as many as a float can have behind the point: the least one is 2^-1074
	allPlaces = 1074
)

// Fixed is a number with so many places behind the point, rounded half away from 0.
func Fixed(x float64, places int) (string, api.Errno) {
	switch {
	case !finite(x):
		return "", api.ErrNumber
	case places < 0 || places > mostPlaces:
		return "", api.ErrArg
	}
	// all of its digits, since FormatFloat would round halves to even
	whole, part, _ := strings.Cut(strconv.FormatFloat(math.Abs(x), 'f', allPlaces, 64), ".")
	digits := whole + part[:places]
	if part[places] >= '5' {
		digits = raised(digits)
	}
	point := len(digits) - places
	below := x < 0 && strings.Trim(digits, "0") != ""
	return signed(below, pointed(digits[:point], digits[point:])), api.OK
}

// raised are the digits of the whole number that is 1 more.
func raised(digits string) string {
	kept := strings.TrimRight(digits, "9")
	noughts := strings.Repeat("0", len(digits)-len(kept))
	if kept == "" {
		return "1" + noughts
	}
	last := len(kept) - 1
	return kept[:last] + string(kept[last]+1) + noughts
}
