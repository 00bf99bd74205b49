package numfmt_test

import (
	"fmt"
	"math"
	"math/big"
	"strconv"
	"strings"
	"time"
	"unicode/utf8"

	"gridiron/api"
	"gridiron/number"
)

// draws is a row of numbers that look drawn, the same in each run.
type draws uint64

func (d *draws) next() uint64 {
	*d = *d*6364136223846793005 + 1442695040888963407
	high := uint64(*d) >> 32
	*d = *d*6364136223846793005 + 1442695040888963407
	return high<<32 | uint64(*d)>>32
}

func (d *draws) below(n int) int {
	return int(d.next() >> 1 % uint64(n))
}

func (d *draws) yes() bool {
	return d.below(2) == 1
}

// float is a finite float, no -0: a small number, a decimal of few digits, a day with a time, or one of any bits.
func (d *draws) float() float64 {
	switch d.below(6) {
	case 0:
		return float64(d.below(7) - 3)
	case 1:
		return float64(d.below(200001)-100000) / 1000
	case 2:
		return float64(d.below(2000001)-1000000) / math.Pow10(d.below(12))
	case 3:
		return float64(d.below(last-first)+first) + float64(d.below(86400))/86400
	case 4:
		return float64(d.below(200)-100) + float64(d.below(48))/48
	}
	for {
		if x := math.Float64frombits(d.next()); !math.IsNaN(x) && !math.IsInf(x, 0) && x != 0 {
			return x
		}
	}
}

// text is a well-formed text of one to n characters.
func (d *draws) text(n int) string {
	all := []rune("aZ09.-,(%) \x00é€\U0001F600\uFFFD\U0010FFFF")
	var out strings.Builder
	for range 1 + d.below(n) {
		out.WriteRune(all[d.below(len(all))])
	}
	return out.String()
}

// value is a well-formed value of any kind, most often a number.
func (d *draws) value() api.Value {
	switch d.below(10) {
	case 0:
		return api.Value{}
	case 1:
		return api.Value{Kind: api.VText, Text: d.text(9)}
	case 2:
		return api.Value{Kind: api.VBool, Yes: d.yes()}
	case 3:
		return api.Value{Kind: api.VErr, Err: 1 + d.below(9)}
	}
	return num(d.float())
}

// piece is a piece of a kind with fields that it may have.
func (d *draws) piece(kind int) api.Piece {
	p := api.Piece{Kind: kind}
	for _, field := range ownFields[kind] {
		switch field {
		case 'T':
			p.Text = d.text(4)
		case 'm':
			p.Min = d.below(21)
		case 'M':
			p.Min = 1 + d.below(20)
		case 'P':
			p.Places = d.below(16)
		case 'E':
			p.Exp = 1 + d.below(4)
		case 'G':
			p.Group = d.yes()
		case 'L':
			p.Long = d.yes()
		}
	}
	return p
}

// format is one that may be, as one of a list of so many.
func (d *draws) format(many int) api.Format {
	f := api.Format{Kind: d.below(8)}
	f.Whole = f.Kind == api.FTime && d.yes()
	kinds := ownPieces[f.Kind]
	amounts := 0
	for range d.below(7) {
		if len(kinds) == 0 {
			break
		}
		p := d.piece(kinds[d.below(len(kinds))])
		if p.Kind == api.PNumber || p.Kind == api.PSci {
			amounts++
			if amounts > 1 {
				continue
			}
		}
		f.Pieces = append(f.Pieces, p)
	}
	if d.below(3) == 0 {
		for range d.below(4) {
			f.Maps = append(f.Maps, api.Map{Op: api.NEq + d.below(6), Value: float64(d.below(5) - 2), To: d.below(many)})
		}
	}
	return f
}

// formats is a list of those that may be, some of which are then spoiled.
func (d *draws) formats(spoiled bool) []api.Format {
	many := 1 + d.below(5)
	out := make([]api.Format, many)
	for i := range out {
		out[i] = d.format(many)
		if spoiled && d.below(4) == 0 {
			d.spoil(&out[i])
		}
	}
	return out
}

// spoil changes something of a format, so that it may be no more (or still).
func (d *draws) spoil(f *api.Format) {
	switch d.below(6) {
	case 0:
		f.Kind += d.below(5) - 2
	case 1:
		f.Whole = !f.Whole
	case 2:
		f.Maps = append(f.Maps, api.Map{Op: 16 + d.below(10), Value: d.float(), To: d.below(9) - 2})
	case 3:
		f.Pieces = append(f.Pieces, d.piece(1+d.below(14)))
	default:
		if len(f.Pieces) == 0 {
			return
		}
		p := &f.Pieces[d.below(len(f.Pieces))]
		soil := soils[d.below(len(soils))]
		soil.change(p)
	}
}

// soils are changes of one field each.
var soils = []struct {
	name   string
	change func(p *api.Piece)
}{
	{"Text", func(p *api.Piece) { p.Text += "x" }},
	{"Min", func(p *api.Piece) { p.Min++ }},
	{"Min below", func(p *api.Piece) { p.Min = -1 }},
	{"Places", func(p *api.Piece) { p.Places++ }},
	{"Places below", func(p *api.Piece) { p.Places = -1 }},
	{"Exp", func(p *api.Piece) { p.Exp++ }},
	{"Exp below", func(p *api.Piece) { p.Exp = -1 }},
	{"Group", func(p *api.Piece) { p.Group = !p.Group }},
	{"Long", func(p *api.Piece) { p.Long = !p.Long }},
}

// The first and the last day that has a date.
const (
	first = -693593
	last  = 2958465
)

var (
	below0 = math.Copysign(0, -1)
	most   = math.Inf(1)
	least  = math.Inf(-1)
	tiny   = math.SmallestNonzeroFloat64
)

// ownPieces are the pieces that each kind of format may have.
var ownPieces = [8][]int{
	api.FNumber:   {api.PText, api.PNumber, api.PSci},
	api.FPercent:  {api.PText, api.PNumber, api.PSci},
	api.FCurrency: {api.PText, api.PNumber, api.PSci, api.PSymbol},
	api.FDate:     {api.PText, api.PDay, api.PMonth, api.PMonthTxt, api.PYear, api.PWeekday, api.PHours, api.PMinutes, api.PSeconds, api.PHalf},
	api.FTime:     {api.PText, api.PHours, api.PMinutes, api.PSeconds, api.PHalf},
	api.FText:     {api.PText, api.PSign},
	api.FBool:     {api.PText, api.PSign},
}

// ownFields are the fields that each kind of piece has, each by a letter: m is a Min from 0 on, M one from 1 on.
var ownFields = [15]string{
	api.PText: "T", api.PNumber: "mPG", api.PSci: "MPE", api.PSymbol: "T",
	api.PDay: "L", api.PMonth: "L", api.PMonthTxt: "L", api.PYear: "L", api.PWeekday: "L", api.PHours: "L", api.PMinutes: "L", api.PSeconds: "LP",
}

func num(x float64) api.Value {
	return api.Value{Kind: api.VNum, Num: x}
}

func text(s string) api.Value {
	return api.Value{Kind: api.VText, Text: s}
}

func truth(yes bool) api.Value {
	return api.Value{Kind: api.VBool, Yes: yes}
}

func fault(code int) api.Value {
	return api.Value{Kind: api.VErr, Err: code}
}

func words(s string) api.Piece {
	return api.Piece{Kind: api.PText, Text: s}
}

func plain(min, places int) api.Piece {
	return api.Piece{Kind: api.PNumber, Min: min, Places: places}
}

func sci(min, places, exp int) api.Piece {
	return api.Piece{Kind: api.PSci, Min: min, Places: places, Exp: exp}
}

func format(kind int, pieces ...api.Piece) api.Format {
	return api.Format{Kind: kind, Pieces: pieces}
}

// told is something as a test tells it, cut off.
func told(x any) string {
	return fmt.Sprintf("%.400s", fmt.Sprintf("%+v", x))
}

// modelPiece tells whether a piece has the fields of its kind alone, within their bounds: each letter that is not its own stands for a zero.
func modelPiece(p api.Piece) bool {
	own := func(letters string) bool { return strings.ContainsAny(ownFields[p.Kind], letters) }
	lowest := 0
	if own("M") {
		lowest = 1
	}
	return (own("T") || p.Text == "") && (!own("T") || p.Text != "" && len(p.Text) <= 256 && utf8.ValidString(p.Text)) &&
		(own("mM") || p.Min == 0) && (!own("mM") || lowest <= p.Min && p.Min < 21) &&
		(own("P") || p.Places == 0) && p.Places >= 0 && p.Places < 16 &&
		(own("E") || p.Exp == 0) && (!own("E") || p.Exp > 0 && p.Exp < 5) &&
		(own("G") || !p.Group) && (own("L") || !p.Long)
}

// modelCheck is what Check answers.
func modelCheck(f api.Format, many int) api.Errno {
	if len(f.Pieces) > 64 || len(f.Maps) > 8 {
		return api.ErrLong
	}
	if f.Kind < 0 || f.Kind > 7 || f.Whole && f.Kind != 5 {
		return api.ErrFormat
	}
	amounts := 0
	for _, p := range f.Pieces {
		found := false
		for _, kind := range ownPieces[f.Kind] {
			found = found || kind == p.Kind
		}
		if p.Kind == 2 || p.Kind == 3 {
			amounts++
		}
		if !found || !modelPiece(p) || amounts == 2 {
			return api.ErrFormat
		}
	}
	for _, m := range f.Maps {
		// the bits above the mantissa are all set of what is not finite
		bits := math.Float64bits(m.Value)
		if m.Op < 18 || m.Op > 23 || bits>>52&0x7FF == 0x7FF || bits == 1<<63 || m.To < 0 || m.To >= many {
			return api.ErrFormat
		}
	}
	return api.OK
}

// modelNumber is what Number answers of a finite number and of arguments that may be: a fraction that the library rounds half away from 0, its digits then laid down from the last one on.
func modelNumber(x float64, least, places int, group bool) string {
	all := new(big.Rat).SetFloat64(math.Abs(x)).FloatString(places)
	whole, part, _ := strings.Cut(all, ".")
	if whole == "0" && least == 0 && places > 0 {
		whole = ""
	}
	out := ""
	for i := 0; i < len(whole) || i < least; i++ {
		if group && i > 0 && i%3 == 0 {
			out = "," + out
		}
		digit := "0"
		if i < len(whole) {
			digit = whole[len(whole)-1-i : len(whole)-i]
		}
		out = digit + out
	}
	if places > 0 {
		out += "." + part
	}
	if x < 0 && strings.Trim(all, "0.") != "" {
		out = "-" + out
	}
	return out
}

// modelSci is what Sci answers of a finite number and of arguments that may be: the least k with which the number, times 10^-k and rounded to the places, has as many digits ahead.
func modelSci(x float64, least, places, exp int) string {
	size := new(big.Rat).SetFloat64(math.Abs(x))
	shown, k := "", 0
	if size.Sign() == 0 {
		shown = strings.Repeat("0", least)
		if places > 0 {
			shown += "." + strings.Repeat("0", places)
		}
	} else {
		_, e := math.Frexp(math.Abs(x))
		for k = int(float64(e-1)*math.Log10(2)) - least - 2; ; k++ {
			ten := new(big.Rat).SetInt(new(big.Int).Exp(big.NewInt(10), big.NewInt(int64(max(k, -k))), nil))
			if k > 0 {
				ten.Inv(ten)
			}
			shown = ten.Mul(ten, size).FloatString(places)
			whole, _, _ := strings.Cut(shown, ".")
			if len(whole) == least && whole[0] != '0' {
				break
			}
		}
	}
	sign, power := "+", fmt.Sprintf("%0*d", exp, max(k, -k))
	if k < 0 {
		sign = "-"
	}
	if x < 0 {
		shown = "-" + shown
	}
	return shown + "E" + sign + power
}

// modelPick is what Pick answers, by floats of any kind held against each other.
func modelPick(l []api.Format, at int, v api.Value) int {
	if at < 0 || at >= len(l) || v.Kind != 1 {
		return at
	}
	for _, m := range l[at].Maps {
		x, y := v.Num, m.Value
		below := x < y || x != x && y == y
		alike := x == y || x != x && y != y
		yes := []bool{alike, !alike, below, below || alike, !below && !alike, !below}
		if m.Op < 18 || m.Op > 23 || !yes[m.Op-18] {
			continue
		}
		if m.To >= 0 && m.To < len(l) {
			return m.To
		}
		break
	}
	return at
}

// modelGeneral is what is shown of a well-formed value that is no error, without a format.
func modelGeneral(v api.Value) string {
	switch v.Kind {
	case api.VNum:
		s, _ := number.Text(v.Num)
		return s
	case api.VBool:
		return strings.ToUpper(strconv.FormatBool(v.Yes))
	}
	return v.Text
}

// modelFormed tells whether a value that is no error is well formed.
func modelFormed(v api.Value) bool {
	x, s, yes := v.Num, v.Text, v.Yes
	switch v.Kind {
	case api.VNum:
		if math.IsNaN(x) || math.IsInf(x, 0) {
			return false
		}
		if math.Float64bits(x) != 1<<63 {
			x = 0
		}
	case api.VText:
		if len(s) > 32768 || !utf8.ValidString(s) {
			return false
		}
		s = ""
	case api.VBool:
		yes = false
	case api.VEmpty:
	default:
		return false
	}
	return math.Float64bits(x) == 0 && s == "" && !yes && v.Err == 0
}

// modelShow is what Show answers, piece by piece.
func modelShow(l []api.Format, at int, v api.Value) string {
	if v.Kind == api.VErr {
		all := []string{"#NULL!", "#DIV/0!", "#VALUE!", "#REF!", "#NAME?", "#NUM!", "#N/A", "#CYCLE!", "#LIMIT!"}
		if v.Err >= 1 && v.Err <= 9 {
			return all[v.Err-1]
		}
		return ""
	}
	if !modelFormed(v) {
		return ""
	}
	to := modelPick(l, at, v)
	if to < 0 || to >= len(l) || modelCheck(l[to], len(l)) != api.OK || len(l[to].Pieces) == 0 {
		return modelGeneral(v)
	}
	f, out := l[to], modelGeneral(v)
	with := [8]int{-1, 1, 1, 1, 1, 1, 2, 3}
	switch {
	case v.Kind != with[f.Kind]:
	case f.Kind >= api.FText:
		out = modelSigns(f, out)
	case f.Kind >= api.FDate:
		out = modelTimes(f, v.Num, out)
	default:
		out = modelAmounts(f, v.Num, to != at, out)
	}
	return out
}

func modelSigns(f api.Format, sign string) string {
	out := ""
	for _, p := range f.Pieces {
		if p.Kind == api.PSign {
			out += sign
		}
		out += p.Text
	}
	return out
}

func modelAmounts(f api.Format, y float64, picked bool, general string) string {
	if f.Kind == api.FPercent {
		y *= 100
		if math.IsInf(y, 0) {
			return general
		}
	}
	out, counts := "", false
	for _, p := range f.Pieces {
		told := ""
		switch p.Kind {
		case api.PNumber:
			told = modelNumber(math.Abs(y), p.Min, p.Places, p.Group)
		case api.PSci:
			told = modelSci(math.Abs(y), p.Min, p.Places, p.Exp)
		}
		counts = counts || strings.Trim(told, "0.,E+-") != ""
		out += told + p.Text
	}
	if y < 0 && !picked && counts {
		return "-" + out
	}
	return out
}

// modelTimes is what is shown of a date and a time, by the library's own calendar.
func modelTimes(f api.Format, x float64, general string) string {
	day, h, minute, second, errno := number.Clock(x)
	if errno != api.OK || f.Whole && x < 0 {
		return general
	}
	when := time.Date(1899, 12, 30, h, minute, second, 0, time.UTC).AddDate(0, 0, day)
	hours := when.Hour()
	for _, p := range f.Pieces {
		if p.Kind == api.PHalf {
			hours, _ = strconv.Atoi(when.Format("3"))
		}
	}
	if f.Whole {
		hours = 24*day + when.Hour()
	}
	out := ""
	for _, p := range f.Pieces {
		layout := p.Text
		switch p.Kind {
		case api.PText:
			out += p.Text
			continue
		case api.PHours:
			if p.Long && hours < 10 {
				out += "0"
			}
			out += strconv.Itoa(hours)
			continue
		case api.PSeconds:
			layout = map[bool]string{false: "5", true: "05"}[p.Long]
		default:
			layout = layouts[p.Kind][map[bool]int{true: 1}[p.Long]]
		}
		out += when.Format(layout)
		if p.Places > 0 {
			out += "." + "000000000000000"[:p.Places]
		}
	}
	return out
}

// layouts are the library's own words for what a piece shows, short and long.
var layouts = map[int][2]string{
	api.PDay: {"2", "02"}, api.PMonth: {"1", "01"}, api.PMonthTxt: {"Jan", "January"}, api.PYear: {"06", "2006"}, api.PWeekday: {"Mon", "Monday"}, api.PMinutes: {"4", "04"}, api.PHalf: {"PM", "PM"},
}
