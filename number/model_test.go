package number_test

import (
	"math"
	"math/big"
	"regexp"
	"strconv"
	"strings"
	"time"

	"gridiron/api"
)

// draws is a row of numbers that look drawn, the same in each run.
type draws uint64

func (d *draws) next() uint64 {
	*d = *d*6364136223846793005 + 1442695040888963407
	high := uint64(*d) >> 32
	*d = *d*6364136223846793005 + 1442695040888963407
	return high<<32 | uint64(*d)>>32
}

func (d *draws) below(n int) int {
	return int(d.next() >> 1 % uint64(n))
}

// float is a finite float of any exponent, below 0 or not.
func (d *draws) float() float64 {
	for {
		if x := math.Float64frombits(d.next()); !math.IsNaN(x) && !math.IsInf(x, 0) {
			return x
		}
	}
}

func (d *draws) digits(n int) string {
	out := make([]byte, n)
	for i := range out {
		out[i] = '0' + byte(d.below(10))
	}
	return string(out)
}

// same tells whether two floats are the same to the bit.
func same(x, y float64) bool {
	return math.Float64bits(x) == math.Float64bits(y)
}

// modelText is a finite number's text, as the library's own plain and power forms say it.
func modelText(x float64) string {
	size := math.Abs(x)
	switch {
	case size == 0:
		return "0"
	case 1e-6 <= size && size < 1e21:
		return strconv.FormatFloat(x, 'f', -1, 64)
	}
	first, power, _ := strings.Cut(strconv.FormatFloat(x, 'E', -1, 64), "E")
	less := strings.HasPrefix(power, "-")
	power = strings.TrimLeft(power, "+-0")
	if less {
		power = "-" + power
	}
	return first + "E" + power
}

var numberForm = regexp.MustCompile(`^(-?)([0-9]+)(?:\.([0-9]+))?(?:[Ee]([+-]?[0-9]+))?$`)

// modelParse is what Parse answers, by fractions of whole numbers of any size.
func modelParse(s string) (float64, api.Errno) {
	if len(s) > api.MaxText {
		return 0, api.ErrLong
	}
	parts := numberForm.FindStringSubmatch(s)
	if parts == nil {
		return 0, api.ErrNumber
	}
	power := new(big.Int)
	if parts[4] != "" {
		power.SetString(parts[4], 10)
	}
	power.Sub(power, big.NewInt(int64(len(parts[3]))))
	whole, _ := new(big.Int).SetString(parts[2]+parts[3], 10)
	first := new(big.Int).Add(power, big.NewInt(int64(len(whole.String()))))
	switch {
	case whole.Sign() == 0 || first.Cmp(big.NewInt(-1000)) < 0:
		return 0, api.OK
	case first.Cmp(big.NewInt(1000)) > 0:
		return 0, api.ErrNumber
	}
	ten := new(big.Int).Exp(big.NewInt(10), new(big.Int).Abs(power), nil)
	value := new(big.Rat).SetFrac(whole, ten)
	if power.Sign() > 0 {
		value.SetInt(whole.Mul(whole, ten))
	}
	x, _ := value.Float64()
	switch {
	case math.IsInf(x, 0):
		return 0, api.ErrNumber
	case parts[1] == "-" && x != 0:
		return -x, api.OK
	}
	return x, api.OK
}

// modelFixed is a finite number with so many places, by a fraction that the library rounds half away from 0.
func modelFixed(x float64, places int) string {
	text := new(big.Rat).SetFloat64(x).FloatString(places)
	if strings.Trim(text, "-0.") == "" {
		return strings.TrimPrefix(text, "-")
	}
	return text
}

// origin is the day 0.
var origin = time.Date(1899, 12, 30, 0, 0, 0, 0, time.UTC)

const (
	first = -693593
	last  = 2958465
)

// dateOf is the date of a day as the library has it.
func dateOf(day int) time.Time {
	return origin.AddDate(0, 0, day)
}

// modelSeconds is the whole number of seconds nearest to a finite number of days, by floats of 53 bits whose powers have no end.
func modelSeconds(x float64) *big.Int {
	product := new(big.Float).SetPrec(53).Mul(big.NewFloat(x), big.NewFloat(86400))
	sum := new(big.Float).SetPrec(53).Add(product, big.NewFloat(0.5))
	s, exactness := sum.Int(nil)
	if exactness == big.Above {
		s.Sub(s, big.NewInt(1))
	}
	return s
}

type clock struct {
	day, hour, minute, second int
	errno                     api.Errno
}

// modelClock is what Clock answers of a finite number.
func modelClock(x float64) clock {
	day, rest := new(big.Int).DivMod(modelSeconds(x), big.NewInt(86400), new(big.Int))
	if day.Cmp(big.NewInt(first)) < 0 || day.Cmp(big.NewInt(last)) > 0 {
		return clock{errno: api.ErrDate}
	}
	at := time.Unix(rest.Int64(), 0).UTC()
	return clock{int(day.Int64()), at.Hour(), at.Minute(), at.Second(), api.OK}
}

// modelDateText is what DateText answers of a finite number.
func modelDateText(x float64) (string, api.Errno) {
	c := modelClock(x)
	if c.errno != api.OK {
		return "", c.errno
	}
	at := dateOf(c.day).Add(time.Duration(c.hour)*time.Hour + time.Duration(c.minute)*time.Minute + time.Duration(c.second)*time.Second)
	return strings.TrimSuffix(at.Format("2006-01-02T15:04:05"), "T00:00:00"), api.OK
}

var dateForm = regexp.MustCompile(`^[0-9]{4}-[0-9]{2}-[0-9]{2}(T[0-9]{2}:[0-9]{2}:[0-9]{2})?$`)

// modelParseDate is what ParseDate answers, by the library's own reader of dates.
func modelParseDate(s string) (float64, api.Errno) {
	if !dateForm.MatchString(s) || s[:4] == "0000" {
		return 0, api.ErrDate
	}
	day, err := time.Parse("2006-01-02", s[:10])
	if err != nil {
		return 0, api.ErrDate
	}
	days := float64((day.Unix() - origin.Unix()) / 86400)
	if len(s) == 10 {
		return days, api.OK
	}
	at, err := time.Parse("15:04:05", s[11:])
	if err != nil {
		return 0, api.ErrDate
	}
	return days + float64(at.Hour()*3600+at.Minute()*60+at.Second())/86400, api.OK
}

// modelTimeText is what TimeText answers of a finite number.
func modelTimeText(x float64) (string, api.Errno) {
	s := modelSeconds(math.Abs(x))
	if s.Cmp(big.NewInt(1<<50)) > 0 {
		return "", api.ErrDate
	}
	hours, rest := new(big.Int).DivMod(s, big.NewInt(3600), new(big.Int))
	text := "PT" + hours.String() + "H"
	if hours.Cmp(big.NewInt(10)) < 0 {
		text = "PT0" + hours.String() + "H"
	}
	if x < 0 && s.Sign() > 0 {
		text = "-" + text
	}
	return text + time.Unix(rest.Int64(), 0).UTC().Format("04M05S"), api.OK
}

var timeForm = regexp.MustCompile(`^(-?)PT([0-9]{2}|[1-9][0-9]{2,12})H([0-5][0-9])M([0-5][0-9])S$`)

// modelParseTime is what ParseTime answers.
func modelParseTime(s string) (float64, api.Errno) {
	parts := timeForm.FindStringSubmatch(s)
	if parts == nil || s == "-PT00H00M00S" {
		return 0, api.ErrDate
	}
	seconds := new(big.Int)
	for i, count := range []int64{3600, 60, 1} {
		n, _ := new(big.Int).SetString(parts[i+2], 10)
		seconds.Add(seconds, n.Mul(n, big.NewInt(count)))
	}
	near := new(big.Float).SetPrec(53).SetInt(seconds)
	x, _ := near.Quo(near, big.NewFloat(86400)).Float64()
	if parts[1] == "-" {
		x = -x
	}
	return x, api.OK
}

// texts goes through all texts of at most so many of the parts.
func texts(parts []string, most int, visit func(string)) {
	var grow func(s string, left int)
	grow = func(s string, left int) {
		visit(s)
		if left == 0 {
			return
		}
		for _, p := range parts {
			grow(s+p, left-1)
		}
	}
	grow("", most)
}

func single(signs string) []string {
	return strings.Split(signs, "")
}

// spoiled goes through a text with one byte left out, put in or changed, at each place, and through its beginnings and ends.
func spoiled(s string, visit func(string)) {
	const bytes = "\x00 +-./0123456789:;AEHMPSTZaehmpst\x7f\x80\xb2\xff"
	for at := range len(s) + 1 {
		visit(s[:at])
		visit(s[at:])
		for i := range len(bytes) {
			visit(s[:at] + bytes[i:i+1] + s[at:])
			if at < len(s) {
				visit(s[:at] + bytes[i:i+1] + s[at+1:])
			}
		}
		for _, wide := range []string{"٣", "３", "−", "．", "é", "\uFFFD", "\n", "\u00a0"} {
			visit(s[:at] + wide + s[at:])
			if at < len(s) {
				visit(s[:at] + wide + s[at+1:])
			}
		}
		if at < len(s) {
			visit(s[:at] + s[at+1:])
		}
	}
}
