package number_test

import (
	"math"
	"math/big"
	"strconv"
	"strings"
	"testing"

	"gridiron/api"
	"gridiron/number"
)

// short is a text that is short enough to be told.
func short(s string) string {
	if len(s) > 60 {
		return strconv.Quote(s[:30]) + " .. " + strconv.Quote(s[len(s)-20:])
	}
	return strconv.Quote(s)
}

// noughts are so many of them.
func noughts(n int) string {
	return strings.Repeat("0", n)
}

// wantParse holds Parse to the bit.
func wantParse(t *testing.T, s string, want float64, wantErrno api.Errno) {
	t.Helper()
	if x, errno := number.Parse(s); !same(x, want) || errno != wantErrno {
		t.Errorf("Parse(%s): %v, %d, want %v, %d", short(s), x, errno, want, wantErrno)
	}
}

// checkParse holds Parse against the model.
func checkParse(t *testing.T, s string) {
	t.Helper()
	want, wantErrno := modelParse(s)
	wantParse(t, s, want, wantErrno)
}

// P8.2: each way to write a number.
func TestParse(t *testing.T) {
	for s, want := range map[string]float64{
		"0": 0, "1": 1, "-1": -1, "007": 7, "-007": -7, "12.5": 12.5, "-12.5": -12.5, "0.1": 0.1, "00.10": 0.1, "1.0": 1, "1E3": 1000, "1e3": 1000, "1E+3": 1000, "1e+3": 1000, "1E-3": 0.001, "1e-3": 0.001, "1E03": 1000, "1E+000": 1, "1E-0": 1, "-1.5E2": -150, "-1.5e-2": -0.015, "0E5": 0, "0.0E-5": 0, "123456789": 123456789,
		"1E21": 1e21, "1E-7": 1e-7, "100000000000000000000": 1e20, "0.000001": 1e-6, "5E-324": least, "1.7976931348623157E308": math.MaxFloat64, "-1.7976931348623157E308": -math.MaxFloat64,
	} {
		wantParse(t, s, want, api.OK)
	}
}

// P8.2: each text that is no number.
func TestParseRefuses(t *testing.T) {
	for _, s := range []string{
		"", "-", "+", "+1", "+0", "--1", "-+1", "+-1", "1-", "1+", "-1-", ".", "-.", ".5", "-.5", "1.", "-1.", "1.E5", ".5E5", "..", "1..2", "1.2.3", "1.2.", ".1.2", "1.-2", "1.+2",
		"E", "e", "E5", "e5", "-E5", "1E", "1e", "1E+", "1E-", "1e+", "1.5E", "1E5.", "1E5.5", "1E.5", "1E++5", "1E--5", "1E+-5", "1E5E5", "1EE5", "1eE5", "1E5e", "1E 5", "1E5-", "1E-5-",
		" ", " 1", "1 ", "1 2", "- 1", "1 E5", "\t1", "1\n", "1\r", "\u00a01", "1\u00a0", "1\u2009000",
		"a", "x", "1a", "a1", "0x10", "0X1P4", "0b1", "0o7", "1_000", "1,5", "1,000", "1'000", "1/2", "50%", "$1", "1f", "1d5", "1D5", "1p5", "1:30", "(1)", "#1",
		"inf", "Inf", "-Inf", "+Inf", "infinity", "Infinity", "nan", "NaN", "TRUE",
		"١", "1٣", "１", "1.５", "1E５", "²", "1²", "½", "−1", "1．5", "1Ｅ5", "Ⅴ",
		"\x00", "1\x00", "\x001", "\xff", "1\xff", "\xb21", "1.\x805", "1E\xff", "1\uFFFD", "\uFEFF1", "/", ":", "1/", "1:", "1.0/", "1E0:", "1999-12-31", "1E999", "-1E999",
	} {
		wantParse(t, s, 0, api.ErrNumber)
	}
}

// P8.2, R2: MaxText bytes and one more, with a fault and without; ErrLong is told ahead of the fault.
func TestParseLong(t *testing.T) {
	const most = api.MaxText
	for _, c := range []struct {
		ahead, behind string
		x             float64
		errno         api.Errno
	}{
		{"", "1", 1, api.OK}, {"-", "1", -1, api.OK}, {"0.", "", 0, api.OK}, {"-0.", "", 0, api.OK}, {"1.", "", 1, api.OK}, {"1.5", "", 1.5, api.OK}, {"25.", "1", 25, api.OK}, {"1E", "", 1, api.OK}, {"1E", "5", 1e5, api.OK}, {"1E-", "5", 1e-5, api.OK}, {"2.5E+", "1", 25, api.OK},
		{"", "", 0, api.OK}, {"", "E-99999", 0, api.OK}, {"", "E99999", 0, api.OK}, {"1", "", 0, api.ErrNumber}, {"-1", "", 0, api.ErrNumber}, {"1E1", "", 0, api.ErrNumber}, {"1E-1", "", 0, api.OK}, {"-1E-1", "", 0, api.OK},
		{"a", "", 0, api.ErrNumber}, {"", "a", 0, api.ErrNumber}, {"", ".", 0, api.ErrNumber}, {"+", "", 0, api.ErrNumber}, {"", "E", 0, api.ErrNumber}, {".", "", 0, api.ErrNumber}, {"1.", ".", 0, api.ErrNumber}, {"", "\xff", 0, api.ErrNumber},
	} {
		for _, bytes := range []int{most - 1, most} {
			wantParse(t, c.ahead+noughts(bytes-len(c.ahead)-len(c.behind))+c.behind, c.x, c.errno)
		}
		for _, bytes := range []int{most + 1, most + 2, 2 * most} {
			wantParse(t, c.ahead+noughts(bytes-len(c.ahead)-len(c.behind))+c.behind, 0, api.ErrLong)
		}
	}
	for _, sign := range []string{"+", "-", ".", "E", " ", "\x00", "\xff", "9"} {
		wantParse(t, strings.Repeat(sign, most+1), 0, api.ErrLong)
		wantParse(t, strings.Repeat(sign, most), 0, api.ErrNumber)
	}
	// of so many digits the last one tells to which side a tie goes
	digits := "9007199254740993." + noughts(most-18)
	wantParse(t, digits+"0", 9007199254740992, api.OK)
	wantParse(t, digits+"1", 9007199254740994, api.OK)
	wantParse(t, "-"+digits[:most-2]+"1", -9007199254740994, api.OK)
}

// exact are the digits of a whole number and a half times 2^e, and the power of ten behind them.
func exact(halves uint64, e int) (string, int) {
	n := new(big.Int).SetUint64(halves)
	// 2^(e - 1) is 5^(1 - e) times 10^(e - 1)
	if e > 0 {
		return n.Lsh(n, uint(e-1)).String(), 0
	}
	return n.Mul(n, new(big.Int).Exp(big.NewInt(5), big.NewInt(int64(1-e)), nil)).String(), e - 1
}

// checkTie looks at the number that lies in the middle between m times 2^e and its neighbour above, and just beside it, in several layouts.
func checkTie(t *testing.T, m uint64, e int) {
	t.Helper()
	digits, power := exact(2*m+1, e)
	low, high := math.Ldexp(float64(m), e), math.Ldexp(float64(m+1), e)
	even := low
	if m%2 > 0 {
		even = high
	}
	below, _ := new(big.Int).SetString(digits, 10)
	below.Sub(below, big.NewInt(1))
	for _, sign := range []string{"", "-"} {
		tell := func(s string, x float64) {
			t.Helper()
			switch {
			case math.IsInf(x, 0):
				wantParse(t, sign+s, 0, api.ErrNumber)
			case sign == "-":
				wantParse(t, sign+s, 0-x, api.OK)
			default:
				wantParse(t, s, x, api.OK)
			}
		}
		at := func(more int) string { return "E" + strconv.Itoa(power-more) }
		tell(digits+at(0), even)
		tell(digits+"."+noughts(900)+at(0), even)
		tell(digits+noughts(900)+at(900), even)
		tell(noughts(900)+digits+at(0), even)
		tell("0."+digits+at(-len(digits)), even)
		tell("0."+noughts(900)+digits+at(-len(digits)-900), even)
		tell(digits[:1]+"."+digits[1:]+"0e"+strconv.Itoa(power+len(digits)-1), even)
		tell(digits+"."+noughts(900)+"1"+at(0), high)
		tell(digits+noughts(900)+"1"+at(901), high)
		tell(digits+"1"+at(1), high)
		tell(below.String()+"."+strings.Repeat("9", 900)+at(0), low)
		tell(below.String()+strings.Repeat("9", 900)+at(900), low)
		tell(below.String()+"9"+at(1), low)
	}
}

// P8.2: ties go to even, and what lies beside them to its side, whatever the number of digits and wherever the point stands.
func TestParseTies(t *testing.T) {
	const top = 1 << 53
	for _, m := range []uint64{1 << 52, 1<<52 + 1, top - 1, top - 2, 0x15555555555555, 0x1AAAAAAAAAAAAA} {
		for _, e := range []int{-1074, -1073, -1000, -500, -60, -54, -53, -52, -10, -1, 0, 1, 2, 10, 60, 300, 800, 970, 971} {
			checkTie(t, m, e)
		}
	}
	// subnormal ones, 0 among them
	for _, m := range []uint64{0, 1, 2, 3, 4, 12345, 1<<52 - 1, 1<<52 - 2, 1 << 51} {
		checkTie(t, m, -1074)
	}
	d := draws(3)
	for range 300 {
		checkTie(t, 1<<52|d.next()>>12, d.below(2046)-1074)
		checkTie(t, d.next()>>(12+d.below(50)), -1074)
	}
}

// P8.2: noughts ahead and behind, whose number a power of ten makes up for; the point may stand hundreds and thousands of digits off.
func TestParseManyNoughts(t *testing.T) {
	for _, n := range []int{1, 18, 19, 20, 21, 300, 400, 799, 800, 801, 9999, 10000, 10001, 30000} {
		power := strconv.Itoa(n)
		for _, c := range []struct {
			s string
			x float64
		}{
			{noughts(n) + "1", 1}, {noughts(n), 0}, {"-" + noughts(n), 0}, {noughts(n) + ".5", 0.5}, {"1." + noughts(n), 1}, {"1." + noughts(n) + "E2", 100},
			{"1" + noughts(n) + "E-" + power, 1}, {"25" + noughts(n) + "e-" + power, 25}, {"-7" + noughts(n) + ".000E-" + power, -7}, {"1.5" + noughts(n) + "E1", 15},
			{"0." + noughts(n) + "1E" + power, 0.1}, {"0." + noughts(n) + "25E+" + power, 0.25}, {"-0." + noughts(n) + "5e" + power, -0.5}, {noughts(n) + "." + noughts(n) + "1E" + power, 0.1},
			{"1E" + noughts(n) + "2", 100}, {"1E-" + noughts(n) + "2", 0.01}, {"1E+" + noughts(n), 1},
			{"9007199254740993" + noughts(n) + "E-" + power, 9007199254740992}, {"0." + noughts(n) + "9007199254740993E" + strconv.Itoa(n+16), 9007199254740992},
		} {
			if len(c.s) <= api.MaxText {
				wantParse(t, c.s, c.x, api.OK)
			}
		}
	}
}

// P8.2: powers far beyond the range, with digits that make up for a part of them.
func TestParseFarPowers(t *testing.T) {
	far := []string{"400", "9999", "10000", "10001", "99999", "100000", "100001", "999999", "2147483648", "4294967296", "9223372036854775807", "9223372036854775808", "18446744073709551616", "18446744073709551617", "1" + noughts(30), strings.Repeat("9", 1000)}
	for _, power := range far {
		for _, s := range []string{"1", "123.456", "0.001", "9" + noughts(50)} {
			wantParse(t, s+"E"+power, 0, api.ErrNumber)
			wantParse(t, "-"+s+"e+"+power, 0, api.ErrNumber)
			wantParse(t, s+"E-"+power, 0, api.OK)
			wantParse(t, "-"+s+"e-"+power, 0, api.OK)
		}
		for _, zero := range []string{"0", "-0", "0.000", "-" + noughts(400) + "." + noughts(400)} {
			wantParse(t, zero+"E"+power, 0, api.OK)
			wantParse(t, zero+"E-"+power, 0, api.OK)
		}
	}
	for _, power := range far[5:] {
		wantParse(t, "0."+noughts(30000)+"1E"+power, 0, api.ErrNumber)
		wantParse(t, "-0."+noughts(30000)+"1E"+power, 0, api.ErrNumber)
		wantParse(t, "1"+noughts(30000)+"E-"+power, 0, api.OK)
		wantParse(t, "-1"+noughts(30000)+"E-"+power, 0, api.OK)
	}
}

// P8.2: where infinities begin, and where 0 does; there is no -0.
func TestParseRange(t *testing.T) {
	greatest, power := exact(2*(1<<53-1), 971)
	if power != 0 || len(greatest) != 309 {
		t.Fatalf("the greatest float has %d digits", len(greatest))
	}
	over, _ := exact(2*(1<<53-1)+1, 971)
	under, _ := new(big.Int).SetString(over, 10)
	under.Sub(under, big.NewInt(1))
	for _, sign := range []string{"", "-"} {
		wantSigned := func(s string, x float64) {
			t.Helper()
			if sign == "-" {
				x = 0 - x
			}
			wantParse(t, sign+s, x, api.OK)
		}
		wantSigned(greatest, math.MaxFloat64)
		wantSigned(under.String(), math.MaxFloat64)
		wantSigned(under.String()+"."+strings.Repeat("9", 2000), math.MaxFloat64)
		wantSigned("0."+under.String()+"E309", math.MaxFloat64)
		wantSigned("1.797693134862315807E308", math.MaxFloat64)
		wantSigned("1.7976931348623158E308", math.MaxFloat64)
		for _, s := range []string{over, over + ".0", over + "." + noughts(2000) + "1", "0." + over + "E309", over + noughts(2000) + "E-2000", "1.797693134862315808E308", "1.7976931348623159E308", "1.8E308", "2E308", "9.99E308", "1E309", "0.1E310", "0.01E311", "1" + noughts(309), "1E310", "1E311"} {
			wantParse(t, sign+s, 0, api.ErrNumber)
		}
		wantSigned("1"+noughts(308), 1e308)
		wantSigned("0.1E309", 1e308)
		half, halfPower := exact(1, -1074)
		for _, s := range []string{half + "E" + strconv.Itoa(halfPower), "2.4703282292062327E-324", "2.47E-324", "1E-324", "0.1E-323", "9E-325", "1E-330", "1E-400", "0." + noughts(400) + "1", "0", "0.0", "0E0", "000", "0E999999", "0E-999999"} {
			wantParse(t, sign+s, 0, api.OK)
		}
		for _, s := range []string{half + "1E" + strconv.Itoa(halfPower-1), half + "." + noughts(2000) + "1E" + strconv.Itoa(halfPower), "2.4703282292062328E-324", "3E-324", "0.3E-323", "5E-324", "7E-324", "0." + noughts(323) + "49"} {
			wantSigned(s, least)
		}
	}
}

// P8.2, R1: all short texts of the signs that mean something, held against the model.
func TestParseAllShort(t *testing.T) {
	texts(single("-+.Ee019 \x00é"), 5, func(s string) { checkParse(t, s) })
	texts(single("-.E05"), 8, func(s string) { checkParse(t, s) })
}

// P8.2, R1: texts of numbers, spoiled at each place.
func TestParseSpoiled(t *testing.T) {
	for _, s := range []string{"-1234.5678E+90", "0", "12", "-7.5", "3e-12", "1E309"} {
		spoiled(s, func(s string) { checkParse(t, s) })
	}
}

// P8.2: drawn digits, from one to far more than a float can tell, held against fractions.
func TestParseDrawn(t *testing.T) {
	d := draws(4)
	for range 20000 {
		most := []int{5, 20, 40, 400, 1000}[d.below(5)]
		s := d.digits(1 + d.below(most))
		if d.below(2) > 0 {
			s += "." + d.digits(1+d.below(most))
		}
		if d.below(4) > 0 {
			s += []string{"E", "e", "E+", "e-", "E-"}[d.below(5)] + strconv.Itoa(d.below(400+most))
		}
		if d.below(2) > 0 {
			s = "-" + s
		}
		checkParse(t, s)
	}
}

// P8.2: drawn numbers of all exponents and of 17 to 21 digits, at which ties are near.
func TestParseNearTies(t *testing.T) {
	d := draws(5)
	for range 60000 {
		x := math.Abs(d.float())
		checkParse(t, strconv.FormatFloat(x, 'e', 14+d.below(8), 64))
	}
}
