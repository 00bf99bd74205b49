package value_test

import (
	"fmt"
	"math"
	"strings"

	"gridiron/api"
	"gridiron/number"
)

// draws is a row of numbers that look drawn, the same in each run.
type draws uint64

func (d *draws) next() uint64 {
	*d = *d*6364136223846793005 + 1442695040888963407
	high := uint64(*d) >> 32
	*d = *d*6364136223846793005 + 1442695040888963407
	return high<<32 | uint64(*d)>>32
}

func (d *draws) below(n int) int {
	return int(d.next() >> 1 % uint64(n))
}

// float is a finite float, no -0: a small number, a decimal of few digits, or one of any bits.
func (d *draws) float() float64 {
	switch d.below(4) {
	case 0:
		return float64(d.below(7) - 3)
	case 1:
		return float64(d.below(200001)-100000) / 1000
	}
	for {
		if x := math.Float64frombits(d.next()); !math.IsNaN(x) && !math.IsInf(x, 0) && x != 0 {
			return x
		}
	}
}

// text is a well-formed text of up to n characters, of letters small and large, of signs beside them, and beyond ASCII.
func (d *draws) text(n int) string {
	const some = "aAbBzZ@[`{09.-\" \x00éÉßſ€\U0001F600\uFFFD\U0010FFFF"
	all := []rune(some)
	var out strings.Builder
	for range d.below(n + 1) {
		out.WriteRune(all[d.below(len(all))])
	}
	return out.String()
}

// said is a text that may say a number or a truth.
func (d *draws) said() string {
	switch d.below(4) {
	case 0:
		s, _ := number.Text(d.float())
		return s
	case 1:
		return []string{"TRUE", "FALSE", "true", "False", "tRUE", "TRUE ", "yes", "1e999"}[d.below(8)]
	}
	return d.text(6)
}

// value is a well-formed value of a kind.
func (d *draws) value(kind int) api.Value {
	v := api.Value{Kind: kind}
	switch kind {
	case api.VNum:
		v.Num = d.float()
	case api.VText:
		v.Text = d.said()
	case api.VBool:
		v.Yes = d.below(2) == 1
	case api.VErr:
		v.Err = 1 + d.below(9)
	}
	return v
}

// The values that the promises name, each with the field of its kind alone.
var (
	below0 = math.Copysign(0, -1)
	nan1   = math.Float64frombits(0x7FF8000000000001)
	nan2   = math.Float64frombits(0xFFF8000000000001)
	nan3   = math.Float64frombits(0x7FF0000000000001)
	most   = math.Inf(1)
	least  = math.Inf(-1)

	numbers = []float64{0, below0, 1, -1, 5, -5, 0.1, -0.1, 1.5, 1e21, -1e21, 1e20, 1e-6, 1e-7, -1e-7, 1 << 53, math.MaxFloat64, -math.MaxFloat64, math.SmallestNonzeroFloat64, -math.SmallestNonzeroFloat64, math.Nextafter(1, 2), math.Nextafter(1, 0), nan1, nan2, nan3, math.NaN(), most, least}
	codes   = []int{1, 2, 3, 4, 5, 6, 7, 8, 9, 0, 10, 11, -1, -9, 256 + 3, 1<<32 + 3, math.MaxInt, math.MinInt}
	kinds   = []int{-1, 5, 6, -4, 256, 1<<32 + 1, math.MaxInt, math.MinInt}
	strange = []string{"\xff", "\x80", "a\xc3", "\xc3", "\xc3a", "\xe2\x82", "\xf0\x9f\x98", "\xc0\x80", "\xc1\xbf", "\xe0\x80\x80", "\xf0\x80\x80\x80", "\xed\xa0\x80", "\xed\xbf\xbf", "\xf4\x90\x80\x80", "\xf8\x88\x80\x80\x80", "a\xffb", "A\xffB", "\xffz", "é\xe9"}
	plain   = []string{"", "a", "A", "b", "B", "ab", "AB", "aB", "abc", "Abd", "z", "Z", "@", "[", "`", "{", "_", "é", "É", "ß", "ſ", "\x00", "a\x00", "\uFFFD", "\U0010FFFF", "€", "\"", "a\"b", "\"\"", " ", "\t\n", "5", "10", "0", "-0", "1.5", "-0.0", "0e5", "1e3", "1E+3", "-1E-3", "1e999", "+1", ".5", "1.", " 1", "1 ", "x", "0x1", "Inf", "NaN", "TRUE", "FALSE", "true", "false", "True", "fAlSe", "TRU", "TRUEE", " TRUE", "TRUE ", "FALSE\n", "T", "ſalse", "fALSſ", "#N/A", "#VALUE!"}
)

// clean are values of every kind and of none, each with the field of its kind alone.
func clean() []api.Value {
	out := []api.Value{{}, {Kind: api.VBool}, {Kind: api.VBool, Yes: true}}
	for _, x := range numbers {
		out = append(out, api.Value{Kind: api.VNum, Num: x})
	}
	for _, s := range append(append([]string{}, plain...), strange...) {
		out = append(out, api.Value{Kind: api.VText, Text: s})
	}
	for _, code := range codes {
		out = append(out, api.Value{Kind: api.VErr, Err: code})
	}
	for _, kind := range kinds {
		out = append(out, api.Value{Kind: kind})
	}
	return out
}

// soiled are a value with something in each field of another kind than its own.
func soiled(v api.Value) []api.Value {
	var out []api.Value
	add := func(own int, change func(*api.Value)) {
		if v.Kind != own {
			other := v
			change(&other)
			out = append(out, other)
		}
	}
	for _, x := range []float64{1, below0, nan1, math.NaN(), most, math.SmallestNonzeroFloat64} {
		add(api.VNum, func(v *api.Value) { v.Num = x })
	}
	for _, s := range []string{"1", "x", "\xff", strings.Repeat("a", api.MaxText+1)} {
		add(api.VText, func(v *api.Value) { v.Text = s })
	}
	add(api.VBool, func(v *api.Value) { v.Yes = true })
	for _, code := range []int{1, 9, 10, -1} {
		add(api.VErr, func(v *api.Value) { v.Err = code })
	}
	return out
}

// told is a value as a test tells it, its text cut off.
func told(v api.Value) string {
	return fmt.Sprintf("{%d %v %.60q %v %d}", v.Kind, v.Num, v.Text, v.Yes, v.Err)
}

// modelSame goes field by field, and tells NaNs and noughts by their signs and bits.
func modelSame(a, b api.Value) bool {
	bits := math.Float64bits(a.Num) ^ math.Float64bits(b.Num)
	a.Num, b.Num = 0, 0
	return bits == 0 && a == b
}

// modelCheck is what Check answers, by each field in its turn.
func modelCheck(v api.Value) api.Errno {
	number, text, truth, code := math.Float64bits(v.Num) != 0, v.Text != "", v.Yes, v.Err != 0
	wrong := true
	switch v.Kind {
	case api.VEmpty:
		wrong = number || text || truth || code
	case api.VNum:
		wrong = text || truth || code || v.Num-v.Num != 0 || v.Num == 0 && math.Signbit(v.Num)
	case api.VText:
		// a byte that is no UTF-8 becomes FFFD on this way
		wrong = number || truth || code || string([]rune(v.Text)) != v.Text
	case api.VBool:
		wrong = number || text || code
	case api.VErr:
		wrong = number || text || truth || v.Err < 1 || v.Err > 9
	}
	switch {
	case wrong:
		return api.ErrArg
	case len(v.Text) > 1<<15:
		return api.ErrLong
	}
	return api.OK
}

func fault(code int) api.Value {
	return api.Value{Kind: api.VErr, Err: code}
}

// modelOther is what all three turns answer of an error and of what is no kind.
func modelOther(v api.Value) api.Value {
	if v.Kind == api.VErr && 0 < v.Err && v.Err < 10 {
		return fault(v.Err)
	}
	return fault(3)
}

func modelNumber(v api.Value) api.Value {
	x := 0.0
	switch {
	case v.Kind == api.VEmpty:
	case v.Kind == api.VNum:
		x = v.Num
	case v.Kind == api.VBool && v.Yes:
		x = 1
	case v.Kind == api.VBool:
	case v.Kind == api.VText:
		said, errno := number.Parse(v.Text)
		if errno != api.OK {
			return fault(3)
		}
		x = said
	default:
		return modelOther(v)
	}
	if x-x != 0 {
		return fault(6)
	}
	return api.Value{Kind: api.VNum, Num: x + 0}
}

func modelText(v api.Value) api.Value {
	s := ""
	switch {
	case v.Kind == api.VEmpty:
	case v.Kind == api.VText:
		s = v.Text
	case v.Kind == api.VBool && v.Yes:
		s = "TRUE"
	case v.Kind == api.VBool:
		s = "FALSE"
	case v.Kind == api.VNum:
		said, errno := number.Text(v.Num)
		if errno != api.OK {
			return fault(6)
		}
		s = said
	default:
		return modelOther(v)
	}
	return api.Value{Kind: api.VText, Text: s}
}

func modelTruth(v api.Value) api.Value {
	yes := false
	switch {
	case v.Kind == api.VEmpty:
	case v.Kind == api.VNum && v.Num != v.Num:
		return fault(6)
	case v.Kind == api.VNum:
		yes = v.Num > 0 || v.Num < 0
	case v.Kind == api.VBool:
		yes = v.Yes
	case v.Kind == api.VText && raised(v.Text) == "TRUE":
		yes = true
	case v.Kind == api.VText && raised(v.Text) == "FALSE":
	default:
		return modelOther(v)
	}
	return api.Value{Kind: api.VBool, Yes: yes}
}

// raised is a text with the large letters of ASCII for the small ones, byte by byte.
func raised(s string) string {
	out := []byte(s)
	for i, b := range out {
		if 'a' <= b && b <= 'z' {
			out[i] = b &^ 0x20
		}
	}
	return string(out)
}

// modelCompare holds two keys against each other, place by place, a beginning ahead of what goes on.
func modelCompare(a, b api.Value) int {
	left, right := key(a, b), key(b, a)
	for i := 0; ; i++ {
		switch {
		case i == len(left) && i == len(right):
			return 0
		case i == len(left) || i < len(right) && left[i] < right[i]:
			return -1
		case i == len(right) || left[i] > right[i]:
			return 1
		}
	}
}

// key is a value's rank and then what it is told by, as whole numbers; the empty value has that of what it counts as against other.
func key(v, other api.Value) []int64 {
	switch v.Kind {
	case api.VEmpty:
		if other.Kind == api.VText {
			return []int64{2}
		}
		return []int64{1, 0}
	case api.VNum:
		return []int64{1, size(v.Num)}
	case api.VText:
		out := []int64{2}
		for _, b := range []byte(raised(v.Text)) {
			out = append(out, int64(b))
		}
		return out
	case api.VBool:
		if v.Yes {
			return []int64{3, 1}
		}
		return []int64{3, 0}
	case api.VErr:
		return []int64{4, int64(v.Err)}
	}
	return []int64{0}
}

// size is a whole number that stands among those of other floats as the float does: its bits without the sign, below 0 for those with one.
func size(x float64) int64 {
	if x != x {
		return math.MinInt64
	}
	n := int64(math.Float64bits(x) &^ (1 << 63))
	if math.Signbit(x) {
		return -n
	}
	return n
}

// modelShow is what Show answers, sign by sign.
func modelShow(v api.Value) string {
	var out strings.Builder
	switch v.Kind {
	case api.VNum, api.VBool:
		return modelText(v).Text
	case api.VErr:
		return modelErrText(v.Err)
	case api.VText:
		out.WriteByte('"')
		for _, b := range []byte(v.Text) {
			if b == '"' {
				out.WriteByte(b)
			}
			out.WriteByte(b)
		}
		out.WriteByte('"')
	}
	return out.String()
}

func modelErrText(code int) string {
	all := strings.Fields("#NULL! #DIV/0! #VALUE! #REF! #NAME? #NUM! #N/A #CYCLE! #LIMIT!")
	for i, s := range all {
		if code == i+1 {
			return s
		}
	}
	return ""
}
