package fnmath_test

import (
	"strconv"
	"strings"
	"testing"

	"gridiron/api"
)

// wantText asks for the text that a function of numbers answers.
func wantText(t *testing.T, name, s string, x ...float64) {
	t.Helper()
	want(t, name, text(s), singles(x...)...)
}

// P17.1: digits by hand.
func TestBase(t *testing.T) {
	wantText(t, "BASE", "255", 255, 10)
	wantText(t, "BASE", "FF", 255, 16)
	wantText(t, "BASE", "00FF", 255, 16, 4)
	wantText(t, "BASE", "FF", 255, 16, 2)
	wantText(t, "BASE", "FF", 255, 16, 1)
	wantText(t, "BASE", "FF", 255.9, 16.9, 2.9)
	wantText(t, "BASE", "0", 0, 2)
	wantText(t, "BASE", "0", 0, 2, 0)
	wantText(t, "BASE", "0", 0, 36, 1)
	wantText(t, "BASE", "000", 0, 36, 3)
	wantText(t, "BASE", "Z", 35, 36)
	wantText(t, "BASE", "10", 36, 36)
	wantText(t, "BASE", "1"+strings.Repeat("0", 53), 0x1p53, 2)
	wantText(t, "BASE", strings.Repeat("1", 53), 0x1p53-1, 2)
	wantText(t, "BASE", "9007199254740992", 0x1p53, 10)
	wantText(t, "BASE", "2GOSA7PA2GW", 0x1p53, 36)
	wantText(t, "BASE", strings.Repeat("0", 254)+"7", 7, 10, 255)
	wantText(t, "BASE", strings.Repeat("0", 255), 0, 10, 255.9)
	for _, l := range [][]float64{{-1, 2}, {-0.1, 2}, {1, 1}, {1, 1.9}, {1, 0}, {1, -2}, {1, 37}, {1, 1e300}, {0x1p53 + 2, 2}, {1, 2, -1}, {1, 2, -0.1}, {1, 2, 256}, {1, 2, 1e300}, {-1, 37, 256}} {
		wantFault(t, "BASE", api.ENum, l...)
	}
}

// P17.1: digits to each base, with noughts ahead.
func TestBases(t *testing.T) {
	for k := -1.0; k <= 38; k++ {
		for _, n := range []float64{-1, 0, 1, 2, 9, 10, 11, 35, 36, 37, 255, 1295, 1296, 1 << 31, 1<<32 + 1, 1e15, 0x1p53 - 1, 0x1p53, 0x1p53 + 2} {
			check(t, "BASE", singles(n, k)...)
			for _, m := range []float64{-1, 0, 1, 2, 3, 10, 53, 54, 55, 254, 255, 256, 257} {
				check(t, "BASE", singles(n, k, m)...)
			}
		}
	}
}

// decimal asks for the number whose digits a text is.
func decimal(t *testing.T, v api.Value, s string, k float64) {
	t.Helper()
	want(t, "DECIMAL", v, single(text(s)), single(num(k)))
}

// P17.1: numbers of digits by hand.
func TestDecimal(t *testing.T) {
	decimal(t, num(255), "ff", 16)
	decimal(t, num(255), "fF", 16.9)
	decimal(t, num(255), "FF", 16)
	decimal(t, num(0), "0", 2)
	decimal(t, num(0), "000", 2)
	decimal(t, num(5), "0101", 2)
	decimal(t, num(35), "z", 36)
	decimal(t, num(36), "10", 36)
	decimal(t, num(0x1p53), "9007199254740992", 10)
	decimal(t, num(0x1p53), "1"+strings.Repeat("0", 53), 2)
	decimal(t, num(0x1p53), "2goSA7pa2gw", 36)
	decimal(t, num(0x1p53-1), strings.Repeat("1", 53), 2)
	for _, s := range []string{"9007199254740993", "9007199254740994", "90071992547409920", "1" + strings.Repeat("0", 54), strings.Repeat("9", 1000), strings.Repeat("9", api.MaxText)} {
		decimal(t, fault(api.ENum), s, 10)
	}
	decimal(t, fault(api.ENum), "2GOSA7PA2GX", 36)
	for _, n := range []int{10, 255, 256, 1000, api.MaxText - 1} {
		decimal(t, num(7), strings.Repeat("0", n)+"7", 8)
		decimal(t, num(0), strings.Repeat("0", n), 8)
	}
	for _, s := range []string{"", " ", "2", "12", "21", " 1", "1 ", "-1", "+1", "1.0", "1e0", "1_0", "0x1", "0b1", "é", "1é", "é1", "１", "\x00", "1\x00", "１1", "\u212a", "\u017f", "@", "[", "`", "{", "/", ":", "1:1"} {
		decimal(t, fault(api.EValue), s, 2)
	}
	// what is no digit is told ahead of what is too much
	for _, s := range []string{strings.Repeat("9", 1000) + "A", "A" + strings.Repeat("9", 1000), "9007199254740993.", strings.Repeat("9", api.MaxText-1) + "A"} {
		decimal(t, fault(api.EValue), s, 10)
	}
	for _, k := range []float64{-1, 0, 1, 1.9, 37, 1e300} {
		for _, s := range []string{"", "0", "1", "?", strings.Repeat("9", 1000)} {
			decimal(t, fault(api.ENum), s, k)
		}
	}
}

// P17.1: each character as a digit to each base.
func TestDigits(t *testing.T) {
	for k := 1; k <= 37; k++ {
		for r := rune(0); r < 0x250; r++ {
			s := string(r)
			check(t, "DECIMAL", single(text(s)), single(num(float64(k))))
			check(t, "DECIMAL", single(text("1"+s+"0")), single(num(float64(k))))
		}
		for _, n := range []int64{0, 1, 35, 1 << 20, 1<<53 - 1, 1 << 53, 1<<53 + 1, 1 << 62} {
			if k >= 2 && k <= 36 {
				s := strconv.FormatInt(n, k)
				check(t, "DECIMAL", single(text(s)), single(num(float64(k))))
				check(t, "DECIMAL", single(text(strings.ToUpper(s))), single(num(float64(k))))
				check(t, "DECIMAL", single(text(strings.Repeat("0", 300)+s)), single(num(float64(k))))
				check(t, "DECIMAL", single(text(s)), single(num(float64(k-1))))
			}
		}
	}
}

// P17.1: Roman digits by hand.
func TestRoman(t *testing.T) {
	for n, s := range map[float64]string{0: "", 1: "I", 3: "III", 4: "IV", 5: "V", 6: "VI", 8: "VIII", 9: "IX", 14: "XIV", 40: "XL", 49: "XLIX", 90: "XC", 99: "XCIX", 400: "CD", 499: "CDXCIX", 900: "CM", 1999: "MCMXCIX", 2026: "MMXXVI", 3888: "MMMDCCCLXXXVIII", 3999: "MMMCMXCIX", 3999.9: "MMMCMXCIX", 0.9: ""} {
		wantText(t, "ROMAN", s, n)
	}
	for _, n := range []float64{-0.1, -1, 4000, 4001, 0x1p53, -0x1p53} {
		wantFault(t, "ROMAN", api.EValue, n)
	}
	wantFault(t, "ROMAN", api.ENum, 1e300)
	wantFault(t, "ROMAN", api.ENum, -1e300)
}

// P17.1, P17.4: each number there and back, in letters of any case.
func TestRomanBack(t *testing.T) {
	for n := range 4002 {
		check(t, "ROMAN", singles(float64(n))...)
		if n > 3999 {
			continue
		}
		s := romanOf(n)
		for _, x := range []string{s, strings.ToLower(s), s[:len(s)/2] + strings.ToLower(s[len(s)/2:])} {
			want(t, "ARABIC", num(float64(n)), single(text(x)))
		}
		for _, x := range []string{s + " ", " " + s, "-" + s, s + "\x00", s + ".", "N" + s, s + "ı", s + "Ⅰ"} {
			want(t, "ARABIC", fault(api.EValue), single(text(x)))
		}
	}
}

// P17.1: texts that are no number's Roman digits, among all short ones of their letters.
func TestNoRoman(t *testing.T) {
	for _, s := range []string{"IIII", "VV", "IM", "IC", "XM", "VX", "LC", "DM", "IVI", "IXI", "XCX", "CMC", "CMD", "CDC", "XLX", "MMMM", "MMMMCMXCIX", "IIV", "IIX", "XXC", "VIV", "LXL", "DCD", "1", "A", "M M", "ⅩⅠ", "ſ", strings.Repeat("M", api.MaxText), strings.Repeat("I", 4000), strings.Repeat("CM", 3000)} {
		want(t, "ARABIC", fault(api.EValue), single(text(s)))
	}
	row := []string{""}
	for range 5 {
		var longer []string
		for _, s := range row {
			for _, r := range "IVXLCDMi" {
				longer = append(longer, s+string(r))
			}
		}
		for _, s := range longer {
			check(t, "ARABIC", single(text(s)))
		}
		row = longer
	}
}
