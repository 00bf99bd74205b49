package number

import (
	"strconv"
	"strings"

	"gridiron/api"
)

// Parse is the float nearest to the number that a text says.
func Parse(s string) (float64, api.Errno) {
	if len(s) > api.MaxText {
		return 0, api.ErrLong
	}
	d, ok := read(s)
	if !ok {
		return 0, api.ErrNumber
	}
	return d.nearest()
}

// decimal is what a number's text says: 0.digits times 10^e, below 0 or not.
type decimal struct {
	below  bool
	digits string // neither the first nor the last is 0; of 0 there are none
	e      int
}

// read is what a text says, if it is a number's.
func read(s string) (decimal, bool) {
	s, below := strings.CutPrefix(s, "-")
	number, power := s, "0"
	if at := strings.IndexAny(s, "Ee"); at >= 0 {
		number, power = s[:at], s[at+1:]
	}
	whole, part, split := strings.Cut(number, ".")
	if !allDigits(whole) || split && !allDigits(part) {
		return decimal{}, false
	}
	e, ok := readPower(power)
	if !ok {
		return decimal{}, false
	}
	all := whole + part
	digits := strings.TrimLeft(all, "0")
	e += len(whole) - (len(all) - len(digits))
	return decimal{below, strings.TrimRight(digits, "0"), e}, true
}

// farthest is a power of ten that no other digits of a text make up for.
const farthest = 4 * api.MaxText

// readPower is the power of ten that stands behind an E, or farthest in its direction, if it is beyond that.
func readPower(s string) (int, bool) {
	digits, less := strings.CutPrefix(s, "-")
	if !less {
		digits = strings.TrimPrefix(s, "+")
	}
	if !allDigits(digits) {
		return 0, false
	}
	power := 0
	for _, r := range digits {
		// there may be any number of digits: held here, the power can't leave its type
		power = min(power*10+int(r-'0'), farthest)
	}
	if less {
		power = -power
	}
	return power, true
}

// allDigits tells whether a text is one digit or more and nothing else.
func allDigits(s string) bool {
	for _, r := range s {
		if !isDigit(r) {
			return false
		}
	}
	return s != ""
}

func isDigit(r rune) bool {
	return '0' <= r && r <= '9'
}

// Numbers of which 0.digits times 10^e is said are infinities from e above mostE on, and 0 from e below leastE on.
const (
	leastE = -323
	mostE  = 309
)

// nearest is the float nearest to a decimal, if it is finite.
func (d decimal) nearest() (float64, api.Errno) {
	switch {
	case d.digits == "" || d.e < leastE:
		return 0, api.OK
	case d.e > mostE:
		return 0, api.ErrNumber
	}
	// in this form alone: ParseFloat goes wrong with hundreds of digits ahead of the point, and with powers of more than five digits
	x, err := strconv.ParseFloat("0."+d.digits+"E"+strconv.Itoa(d.e), 64)
	if err != nil {
		return 0, api.ErrNumber
	}
	if d.below {
		// not -x: that would be -0 for what has become 0
		x = 0 - x
	}
	return x, api.OK
}
