package lexis_test

import (
	"math"
	"strconv"
	"strings"

	"gridiron/api"
	"gridiron/number"
	"gridiron/refs"
)

// draws is a row of numbers that look drawn, the same in each run.
type draws uint64

func (d *draws) next() uint64 {
	*d = *d*6364136223846793005 + 1442695040888963407
	high := uint64(*d) >> 32
	*d = *d*6364136223846793005 + 1442695040888963407
	return high<<32 | uint64(*d)>>32
}

func (d *draws) below(n int) int {
	return int(d.next() >> 1 % uint64(n))
}

func (d *draws) yes() bool {
	return d.below(2) == 1
}

// one is one of some texts.
func (d *draws) one(of ...string) string {
	return of[d.below(len(of))]
}

// some are up to so many of some signs.
func (d *draws) some(of string, most int) string {
	var out strings.Builder
	all := []rune(of)
	for range d.below(most + 1) {
		out.WriteRune(all[d.below(len(all))])
	}
	return out.String()
}

// number is a number's text, with each of its parts or without.
func (d *draws) number() string {
	out := d.one("0", "1", "9", "00") + d.some(digits, 5)
	if d.yes() {
		out += "." + d.one("0", "5", "25") + d.some(digits, 4)
	}
	if d.yes() {
		out += d.one("E", "e") + d.one("", "+", "-") + d.one("0", "1", "7", "30", "008", "299", "400")
	}
	return out
}

// name is a name, sometimes as long as one may be.
func (d *draws) name() string {
	out := d.one("A", "z", "_", "E", "e1", "SUM", "x.y", "TRUE", "_9.") + d.some(capitals+smalls+digits+"_..", []int{0, 3, 9, 90}[d.below(4)])
	return out[:min(len(out), api.MaxName)]
}

// said is what a text says.
func (d *draws) said() string {
	return d.some(`"""''[]ab 1#\`+"\t\n\r<=é€\U0001F600\uFFFD\x7F", []int{0, 2, 6, 40}[d.below(4)])
}

// ref is a reference that may be.
func (d *draws) ref() api.Ref {
	sheets := []string{"S1", "x y", "1", "é", `a"b`, "#NUM!", ".", "a;b", strings.Repeat("z", api.MaxName), "\uFFFD"}
	corner := func() api.Corner {
		c := api.Corner{Row: d.below([]int{3, api.MaxRows}[d.below(2)]), Col: d.below([]int{3, api.MaxCols}[d.below(2)]), AbsRow: d.yes(), AbsCol: d.yes()}
		return c
	}
	r := api.Ref{A: corner(), Area: d.yes()}
	if r.Area {
		r.B = corner()
	}
	if d.yes() {
		r.Sheet, r.Fixed = sheets[d.below(len(sheets))], d.yes()
		if r.Area && d.yes() {
			r.To = sheets[d.below(len(sheets))]
		}
	}
	return r
}

// float is a number that is not below 0.
func (d *draws) float() float64 {
	switch d.below(4) {
	case 0:
		return float64(d.below(1000))
	case 1:
		return float64(d.below(100000)) / 1000
	case 2:
		x, _ := number.Parse(strconv.Itoa(d.below(1000)) + "E" + strconv.Itoa(d.below(600)-300))
		return x
	}
	x := math.Abs(math.Float64frombits(d.next()))
	if math.IsNaN(x) || math.IsInf(x, 0) {
		return math.MaxFloat64
	}
	return x
}

// lexeme is a token that has a text.
func (d *draws) lexeme() api.Lexeme {
	switch kind := 1 + d.below(6); kind {
	case api.LNum:
		return num(0, d.float())
	case api.LText:
		return text(0, d.said())
	case api.LRef:
		return api.Lexeme{Kind: kind, Ref: d.ref()}
	case api.LName:
		return name(0, d.name())
	case api.LErr:
		return failure(0, 1+d.below(9))
	}
	return sign(0, d.one(everySign()...))
}

// soiled is a token of any kind or none with some fields filled by anything.
func (d *draws) soiled() api.Lexeme {
	x := d.lexeme()
	for range d.below(3) {
		other := d.lexeme()
		switch d.below(6) {
		case 0:
			x.Kind = d.below(10) - 1
		case 1:
			x.Num = []float64{1, -1, 0, math.Copysign(0, -1), math.NaN(), math.Inf(1), math.Inf(-1), math.MaxFloat64, math.SmallestNonzeroFloat64, other.Num}[d.below(10)]
		case 2:
			x.Text = d.one("", "a", "1a", "<", "=<", "\xff", "\x00", `"`, " ", strings.Repeat("a", 65), other.Text)
		case 3:
			x.Ref = other.Ref
			x.Ref.Fixed = d.yes()
			x.Ref.A.Row -= d.below(2)
		case 4:
			x.Err = d.below(12) - 1
		case 5:
			x.At = d.below(99) - 50
		}
	}
	return x
}

// piece is a token's text, or blanks, or now and then what begins no token.
func (d *draws) piece() string {
	switch d.below(12) {
	case 0, 1:
		return d.number()
	case 2:
		quoted, _ := modelQuote(d.said())
		return quoted
	case 3:
		inner, _ := refs.Text(d.ref())
		return "[" + inner + "]"
	case 4, 5:
		return d.name()
	case 6:
		return d.one(everyError()...)
	case 7, 8, 9:
		return d.one(everySign()...)
	case 10:
		return d.some(blanks, 4)
	}
	return d.one("", "", "", "", "", "'", "]", "?", "$", ":", ",", "#", ".", "é", "\xff", "\x00", strings.Repeat("n", api.MaxName))
}

// formula is a row of pieces, with blanks between some of them.
func (d *draws) formula() string {
	var out strings.Builder
	for range d.below([]int{3, 6, 20}[d.below(3)]) {
		out.WriteString(d.piece())
		if d.below(3) > 0 {
			out.WriteString(d.one(" ", "\t", "\r\n", "  ", ";", "+"))
		}
	}
	return out.String()
}

// spoiled is a text with a byte left out, put in or changed.
func (d *draws) spoiled(s string) string {
	const likely = "AZaez09_.+-\"\"''[]#<>=;! \n?\x00\x7F\x80\xC3\xFF"
	at, sign := d.below(len(s)+1), string([]byte{likely[d.below(len(likely))]})
	switch end := min(at+1, len(s)); d.below(3) {
	case 0:
		return s[:at] + s[end:]
	case 1:
		return s[:at] + sign + s[end:]
	}
	return s[:at] + sign + s[at:]
}
