package fnmath

import (
	"strconv"
	"strings"

	"gridiron/api"
	"gridiron/chars"
	"gridiron/value"
)

const (
	leastBase  = 2
	mostBase   = 36
	mostDigits = 255 // digits with noughts ahead
)

// isBase tells whether numbers are written to a base.
func isBase(k float64) bool { return k >= leastBase && k <= mostBase }

// base is a number's digits to a base, with noughts ahead, if they are fewer than are asked for.
func base(v ...api.Value) api.Value {
	n, k, m := v[0].Num, v[1].Num, v[2].Num
	if !isBase(k) || n < 0 || m < 0 || m > mostDigits {
		return noNumber()
	}
	digits := chars.Upper(strconv.FormatInt(int64(n), int(k)))
	ahead := max(int(m)-len(digits), 0)
	return value.Text(strings.Repeat("0", ahead) + digits)
}

// decimal is the number whose digits to a base are given.
func decimal(v ...api.Value) api.Value {
	t, k := v[0].Text, v[1].Num
	if !isBase(k) {
		return noNumber()
	}
	if t == "" {
		return value.Err(api.EValue)
	}
	n := 0
	for _, r := range t {
		d := digit(r)
		if d >= int(k) {
			return value.Err(api.EValue)
		}
		// held here, it can't leave its type, while the digits behind are still looked at
		n = min(n*int(k)+d, mostWhole+1)
	}
	if n > mostWhole {
		return noNumber()
	}
	return value.Num(float64(n))
}

// digit is what a character is worth as a digit; what is none is worth more than any.
func digit(r rune) int {
	switch {
	case '0' <= r && r <= '9':
		return int(r - '0')
	case 'A' <= r && r <= 'Z':
		return int(r-'A') + 10
	case 'a' <= r && r <= 'z':
		return int(r-'a') + 10
	}
	return mostBase
}

// mostRoman is the greatest number that has Roman digits.
const mostRoman = 3999

// romanSign is a row of Roman digits, and what it is worth.
type romanSign struct {
	text  string
	worth int
}

var romanSigns = [...]romanSign{
	{"M", 1000}, {"CM", 900}, {"D", 500}, {"CD", 400}, {"C", 100}, {"XC", 90},
	{"L", 50}, {"XL", 40}, {"X", 10}, {"IX", 9}, {"V", 5}, {"IV", 4}, {"I", 1},
}

// roman is a number's Roman digits.
func roman(n float64) api.Value {
	if n < 0 || n > mostRoman {
		return value.Err(api.EValue)
	}
	return value.Text(romanText(int(n)))
}

func romanText(n int) string {
	var out strings.Builder
	for _, sign := range romanSigns {
		for n >= sign.worth {
			out.WriteString(sign.text)
			n -= sign.worth
		}
	}
	return out.String()
}

// arabic is the number whose Roman digits are given.
func arabic(v ...api.Value) api.Value {
	t := chars.Upper(v[0].Text)
	n := romanWorth(t)
	// other rows of these signs are worth something, too, but are no number's digits
	if n > mostRoman || romanText(n) != t {
		return value.Err(api.EValue)
	}
	return value.Num(float64(n))
}

// romanWorth is what the signs at a text's beginning are worth, the greatest ones first.
func romanWorth(t string) int {
	n := 0
	for _, sign := range romanSigns {
		for strings.HasPrefix(t, sign.text) {
			t = t[len(sign.text):]
			n += sign.worth
		}
	}
	return n
}
