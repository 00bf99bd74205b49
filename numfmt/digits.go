package numfmt

import (
	"math"
	"strconv"
	"strings"

	"gridiron/api"
	"gridiron/number"
)

// Number is a number's text: at least so many digits ahead of the point, so many behind it.
func Number(x float64, least, places int, group bool) (string, api.Errno) {
	if !numberFits(least, places) {
		return "", api.ErrArg
	}
	fixed, errno := number.Fixed(x, places)
	if errno != api.OK {
		return "", errno
	}
	digits, below := strings.CutPrefix(fixed, "-")
	whole, part, _ := strings.Cut(digits, ".")
	if least == 0 && places > 0 && whole == "0" {
		whole = ""
	}
	whole = padded(whole, least)
	if group {
		whole = grouped(whole)
	}
	return signed(below, pointed(whole, part)), api.OK
}

// grouped are digits with a comma ahead of each three of them, counted from the end, that have a digit ahead.
func grouped(digits string) string {
	var out strings.Builder
	for at, r := range digits {
		if at > 0 && (len(digits)-at)%3 == 0 {
			out.WriteByte(',')
		}
		out.WriteRune(r)
	}
	return out.String()
}

// Sci is a number's text in powers of ten.
func Sci(x float64, least, places, exp int) (string, api.Errno) {
	if !sciFits(least, places, exp) {
		return "", api.ErrArg
	}
	// number tells which floats are numbers; its digits are not all that a float has
	if _, _, errno := number.Digits(x); errno != api.OK {
		return "", errno
	}
	digits, first := rounded(math.Abs(x), least+places)
	k := 0
	if x != 0 {
		k = first - (least - 1)
	}
	return signed(x < 0, pointed(digits[:least], digits[least:])) + "E" + powerText(k, exp), api.OK
}

// mostDigits are as many as the exact value of a float has at most.
const mostDigits = 767

// rounded are so many digits of a number that is not below 0, its exact value rounded half up, and the power of ten of the first one.
func rounded(x float64, many int) (string, int) {
	// all of its digits, since FormatFloat would round halves to even
	exact, power, _ := strings.Cut(strconv.FormatFloat(x, 'e', mostDigits-1, 64), "e")
	// a power that FormatFloat has written is an int
	first, _ := strconv.Atoi(power)
	all := strings.Replace(exact, ".", "", 1)
	digits := all[:many]
	if all[many] >= '5' {
		digits = raised(digits)
	}
	if len(digits) > many {
		// one more digit, and all behind the first are noughts
		return digits[:many], first + 1
	}
	return digits, first
}

// raised are the digits of the whole number that is 1 more.
func raised(digits string) string {
	kept := strings.TrimRight(digits, "9")
	noughts := strings.Repeat("0", len(digits)-len(kept))
	if kept == "" {
		return "1" + noughts
	}
	last := len(kept) - 1
	return kept[:last] + string(kept[last]+1) + noughts
}

// powerText is a power of ten with its sign, in at least so many digits.
func powerText(k, least int) string {
	if k < 0 {
		return "-" + counted(-k, least)
	}
	return "+" + counted(k, least)
}

// counted is a number that is not below 0, in at least so many digits.
func counted(n, least int) string {
	return padded(strconv.Itoa(n), least)
}

// padded are digits with noughts ahead, so that there are at least so many.
func padded(digits string, least int) string {
	return strings.Repeat("0", max(0, least-len(digits))) + digits
}

// pointed is a number's text by its digits ahead of the point and behind it, where there may be none.
func pointed(whole, part string) string {
	if part == "" {
		return whole
	}
	return whole + "." + part
}

func signed(below bool, text string) string {
	if below {
		return "-" + text
	}
	return text
}
