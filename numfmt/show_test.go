package numfmt_test

import (
	"math"
	"slices"
	"strings"
	"testing"
	"unicode/utf8"

	"gridiron/api"
	"gridiron/number"
	"gridiron/numfmt"
)

func wantShow(t *testing.T, l []api.Format, at int, v api.Value, want string) {
	t.Helper()
	if got := numfmt.Show(l, at, v); got != want {
		t.Errorf("Show(%s, %d, %s): %.200q, want %.200q", told(l), at, told(v), got, want)
	}
	if model := modelShow(l, at, v); model != want {
		t.Errorf("the model of Show(%s, %d, %s): %.200q, want %.200q", told(l), at, told(v), model, want)
	}
}

// wantBy is what is shown by one format alone.
func wantBy(t *testing.T, f api.Format, v api.Value, want string) {
	t.Helper()
	wantShow(t, []api.Format{f}, 0, v, want)
}

func checkShow(t *testing.T, l []api.Format, at int, v api.Value) {
	t.Helper()
	wantShow(t, l, at, v, modelShow(l, at, v))
}

func piece(kind int) api.Piece {
	return api.Piece{Kind: kind}
}

func long(kind int) api.Piece {
	return api.Piece{Kind: kind, Long: true}
}

func seconds(places int, long bool) api.Piece {
	return api.Piece{Kind: api.PSeconds, Places: places, Long: long}
}

func wholeTime(pieces ...api.Piece) api.Format {
	return api.Format{Kind: api.FTime, Whole: true, Pieces: pieces}
}

// each is a list with a format of each kind that may be, each with pieces (but for FGeneral).
func each() []api.Format {
	return []api.Format{
		api.FGeneral:  format(api.FGeneral),
		api.FNumber:   format(api.FNumber, plain(1, 2)),
		api.FPercent:  format(api.FPercent, plain(1, 0), words("%")),
		api.FCurrency: format(api.FCurrency, api.Piece{Kind: api.PSymbol, Text: "€"}, plain(1, 2)),
		api.FDate:     format(api.FDate, long(api.PYear), words("-"), long(api.PMonth), words("-"), long(api.PDay)),
		api.FTime:     format(api.FTime, piece(api.PHours), words(":"), long(api.PMinutes)),
		api.FText:     format(api.FText, words("<"), piece(api.PSign), words(">")),
		api.FBool:     format(api.FBool, piece(api.PSign), words("!")),
	}
}

// P10.4: the chapter's examples.
func TestShowExamples(t *testing.T) {
	wantBy(t, format(api.FPercent, plain(1, 1), words("%")), num(0.256), "25.6%")
	wantBy(t, format(api.FDate, long(api.PDay), words("."), piece(api.PMonthTxt), words(" "), long(api.PYear), words(" "), piece(api.PHours), piece(api.PHalf)), num(36526.75), "01.Jan 2000 6PM")
	l := []api.Format{format(api.FNumber, plain(1, 0)), format(api.FNumber, words("("), plain(1, 0), words(")"))}
	l[0].Maps = []api.Map{{Op: api.NLt, Value: 0, To: 1}}
	wantShow(t, l, 0, num(-5), "(5)")
	wantShow(t, l, 0, num(5), "5")
	wantShow(t, l, 1, num(-5), "-(5)")
}

// P10.4: errors of each code and of none, by any format and by none; what else is in the value counts for nothing.
func TestShowErrors(t *testing.T) {
	texts := []string{"", "#NULL!", "#DIV/0!", "#VALUE!", "#REF!", "#NAME?", "#NUM!", "#N/A", "#CYCLE!", "#LIMIT!", ""}
	l := each()
	for at := -1; at <= len(l); at++ {
		for code, want := range texts {
			wantShow(t, l, at, fault(code), want)
			wantShow(t, nil, at, fault(code), want)
			wantShow(t, l, at, api.Value{Kind: api.VErr, Err: code, Num: math.NaN(), Text: "\xff", Yes: true}, want)
		}
		for _, code := range []int{-1, 11, 256 + 1, 1<<32 + 1, math.MinInt, math.MaxInt} {
			wantShow(t, l, at, fault(code), "")
		}
	}
}

// P10.4: of a value that is not well formed nothing is shown, by no format.
func TestShowIllFormed(t *testing.T) {
	l := each()
	bad := []api.Value{
		{Kind: -1}, {Kind: 5}, {Kind: math.MaxInt}, {Kind: math.MinInt}, {Num: 1}, {Num: below0}, {Text: "x"}, {Yes: true}, {Err: 1},
		num(math.NaN()), num(most), num(least), num(below0), {Kind: api.VNum, Num: 1, Text: "x"}, {Kind: api.VNum, Num: 1, Yes: true}, {Kind: api.VNum, Num: 1, Err: 1},
		text("\xff"), text("a\xc3"), text(strings.Repeat("x", api.MaxText+1)), {Kind: api.VText, Text: "x", Num: 1}, {Kind: api.VText, Text: "x", Num: below0}, {Kind: api.VText, Text: "x", Yes: true}, {Kind: api.VText, Text: "x", Err: 2},
		{Kind: api.VBool, Num: 1}, {Kind: api.VBool, Yes: true, Text: "x"}, {Kind: api.VBool, Yes: true, Err: 1}, {Kind: api.VBool, Num: math.NaN()},
	}
	for _, v := range bad {
		for at := -1; at <= len(l); at++ {
			wantShow(t, l, at, v, "")
		}
		wantShow(t, nil, 0, v, "")
	}
	mapped := each()
	mapped[1].Maps = []api.Map{{Op: api.NLt, Value: 0, To: 2}}
	wantShow(t, mapped, 1, num(math.NaN()), "")
}

// P10.4: each Kind of format against each kind of value: those that do not go together are general.
func TestShowKinds(t *testing.T) {
	l := each()
	values := []api.Value{{}, num(36526.5), text("x"), truth(true)}
	plainly := []string{"", "36526.5", "x", "TRUE"}
	own := map[int][4]string{
		api.FNumber: {api.VNum: "36526.50"}, api.FPercent: {api.VNum: "3652650%"}, api.FCurrency: {api.VNum: "€36526.50"}, api.FDate: {api.VNum: "2000-01-01"}, api.FTime: {api.VNum: "12:00"}, api.FText: {api.VText: "<x>"}, api.FBool: {api.VBool: "TRUE!"},
	}
	for at := -1; at <= len(l); at++ {
		for kind, v := range values {
			want := own[at][kind]
			if want == "" {
				want = plainly[kind]
			}
			wantShow(t, l, at, v, want)
			wantShow(t, nil, at, v, plainly[kind])
		}
	}
}

// P10.4: general, where there is no such format, where Check refuses it, and where it has no pieces.
func TestShowGeneral(t *testing.T) {
	for _, at := range []int{math.MinInt, -1, 8, 9, 1 << 32, math.MaxInt} {
		wantShow(t, each(), at, num(2.5), "2.5")
		wantShow(t, each(), at, num(-1e21), "-1E21")
		wantShow(t, each(), at, text("x\x00é"), "x\x00é")
		wantShow(t, each(), at, truth(false), "FALSE")
		wantShow(t, each(), at, api.Value{}, "")
	}
	for _, f := range []api.Format{
		{Kind: -1, Pieces: []api.Piece{words("x")}}, {Kind: 8, Pieces: []api.Piece{words("x")}}, {Pieces: []api.Piece{words("x")}},
		format(api.FNumber, plain(21, 0)), format(api.FNumber, plain(1, 16)), format(api.FNumber, plain(-1, 0)), format(api.FNumber, plain(1, 0), plain(1, 0)), format(api.FNumber, sci(0, 0, 1)), format(api.FNumber, words("")), format(api.FNumber, words("\xff")), format(api.FNumber, piece(api.PSign)), format(api.FNumber, api.Piece{Kind: api.PSymbol, Text: "$"}), format(api.FNumber, piece(0)), format(api.FNumber, piece(15)), format(api.FNumber, piece(-1)), format(api.FNumber, piece(math.MaxInt)), format(api.FNumber, piece(math.MinInt)), format(api.FNumber, api.Piece{Kind: api.PNumber, Long: true}),
		format(api.FNumber, slices.Repeat([]api.Piece{words("x")}, 65)...),
		{Kind: api.FNumber, Pieces: []api.Piece{words("x")}, Whole: true}, {Kind: api.FNumber, Pieces: []api.Piece{words("x")}, Maps: []api.Map{{Op: api.NLt, To: 1}}}, {Kind: api.FNumber, Pieces: []api.Piece{words("x")}, Maps: []api.Map{{Op: api.NLt, To: -1}}}, {Kind: api.FNumber, Pieces: []api.Piece{words("x")}, Maps: []api.Map{{Op: 17}}}, {Kind: api.FNumber, Pieces: []api.Piece{words("x")}, Maps: []api.Map{{Op: api.NLt, Value: below0}}}, {Kind: api.FNumber, Pieces: []api.Piece{words("x")}, Maps: make([]api.Map, 9)},
		format(api.FTime, piece(api.PDay)), format(api.FDate, seconds(16, false)), {Kind: api.FDate, Whole: true, Pieces: []api.Piece{words("x")}},
	} {
		wantBy(t, f, num(2.5), "2.5")
	}
	for _, f := range []api.Format{format(api.FText, plain(1, 0)), format(api.FText, piece(api.PSign), words("")), {Kind: api.FText, Whole: true, Pieces: []api.Piece{words("x")}}} {
		wantBy(t, f, text("a"), "a")
		f.Kind = api.FBool
		wantBy(t, f, truth(true), "TRUE")
	}
	for kind := api.FGeneral; kind <= api.FBool; kind++ {
		wantBy(t, format(kind), num(2.5), "2.5")
		wantBy(t, format(kind), text("a"), "a")
		wantBy(t, format(kind), truth(true), "TRUE")
		wantBy(t, format(kind), api.Value{}, "")
	}
	wantBy(t, wholeTime(), num(2.5), "2.5")
	most64 := format(api.FNumber, slices.Repeat([]api.Piece{words("x")}, 64)...)
	wantBy(t, most64, num(2.5), strings.Repeat("x", 64))
}

// P10.4: the pieces of a text and of a truth, the text itself any number of times.
func TestShowTexts(t *testing.T) {
	sign := piece(api.PSign)
	full := strings.Repeat("x", api.MaxText)
	for _, c := range []struct {
		pieces []api.Piece
		s      string
		want   string
	}{
		{[]api.Piece{sign}, "a", "a"}, {[]api.Piece{sign}, "", ""}, {[]api.Piece{words("("), sign, words(")")}, "aé", "(aé)"}, {[]api.Piece{sign, sign, words("-"), sign}, "ab", "abab-ab"}, {[]api.Piece{words("x")}, "a", "x"}, {[]api.Piece{words("x"), words("y")}, "", "xy"}, {[]api.Piece{sign}, "TRUE", "TRUE"}, {[]api.Piece{sign}, "-5", "-5"}, {[]api.Piece{words("x"), sign}, "0", "x0"}, {[]api.Piece{sign, words("y")}, full, full + "y"}, {slices.Repeat([]api.Piece{sign}, 64), full, strings.Repeat(full, 64)},
	} {
		wantBy(t, format(api.FText, c.pieces...), text(c.s), c.want)
	}
	wantBy(t, format(api.FBool, sign), truth(true), "TRUE")
	wantBy(t, format(api.FBool, sign), truth(false), "FALSE")
	wantBy(t, format(api.FBool, words("("), sign, sign, words(")")), truth(false), "(FALSEFALSE)")
	wantBy(t, format(api.FBool, words("yes")), truth(false), "yes")
}

// P10.4: numbers by their pieces; a - stands ahead of the first one, and is left out where only noughts are told.
func TestShowNumbers(t *testing.T) {
	euro := api.Piece{Kind: api.PSymbol, Text: "€"}
	grouped := api.Piece{Kind: api.PNumber, Min: 1, Places: 2, Group: true}
	for _, c := range []struct {
		kind   int
		pieces []api.Piece
		x      float64
		want   string
	}{
		{api.FNumber, []api.Piece{plain(1, 2)}, 1234.5, "1234.50"}, {api.FNumber, []api.Piece{grouped}, -1234.5, "-1,234.50"}, {api.FNumber, []api.Piece{sci(1, 2, 2)}, 12345, "1.23E+04"}, {api.FNumber, []api.Piece{sci(1, 2, 2)}, -0.00012345, "-1.23E-04"}, {api.FNumber, []api.Piece{plain(0, 1)}, -0.5, "-.5"}, {api.FNumber, []api.Piece{plain(3, 0)}, -7, "-007"},
		// a text ahead of the digits
		{api.FNumber, []api.Piece{words("("), plain(1, 0), words(")")}, -5, "-(5)"}, {api.FNumber, []api.Piece{words("("), plain(1, 0), words(")")}, 5, "(5)"}, {api.FNumber, []api.Piece{words("a"), words("b"), sci(1, 0, 1)}, -5, "-ab5E+0"}, {api.FNumber, []api.Piece{plain(1, 0), words("m")}, -5, "-5m"}, {api.FCurrency, []api.Piece{euro, grouped}, -1234.5, "-€1,234.50"}, {api.FCurrency, []api.Piece{words("x"), euro, plain(1, 0), euro}, -2, "-x€2€"}, {api.FCurrency, []api.Piece{sci(2, 0, 1), words(" "), euro}, -2, "-20E-1 €"},
		// nothing but noughts
		{api.FNumber, []api.Piece{words("("), plain(1, 0), words(")")}, -0.4, "(0)"}, {api.FNumber, []api.Piece{words("1"), plain(1, 0)}, -0.4, "10"}, {api.FNumber, []api.Piece{plain(1, 0), words("9")}, -0.4, "09"}, {api.FCurrency, []api.Piece{{Kind: api.PSymbol, Text: "5"}, plain(1, 1)}, -0.04, "50.0"}, {api.FNumber, []api.Piece{plain(4, 0)}, -0.4, "0000"}, {api.FNumber, []api.Piece{plain(0, 2)}, -0.004, ".00"}, {api.FNumber, []api.Piece{plain(0, 2)}, -0.005, "-.01"}, {api.FNumber, []api.Piece{plain(1, 0)}, -0.5, "-1"}, {api.FNumber, []api.Piece{plain(1, 0)}, 0, "0"}, {api.FNumber, []api.Piece{sci(1, 1, 2)}, 0, "0.0E+00"}, {api.FNumber, []api.Piece{sci(1, 1, 2)}, -tiny, "-4.9E-324"},
		// texts alone tell no digit of the number
		{api.FNumber, []api.Piece{words("x")}, -5, "x"}, {api.FNumber, []api.Piece{words("5")}, -5, "5"}, {api.FCurrency, []api.Piece{euro}, -5, "€"}, {api.FCurrency, []api.Piece{{Kind: api.PSymbol, Text: "7"}}, -5, "7"}, {api.FNumber, []api.Piece{words("x")}, 5, "x"},
		// percents
		{api.FPercent, []api.Piece{plain(1, 1), words("%")}, 0.256, "25.6%"}, {api.FPercent, []api.Piece{plain(1, 0), words("%")}, -0.25, "-25%"}, {api.FPercent, []api.Piece{words("%"), plain(1, 0)}, -0.25, "-%25"}, {api.FPercent, []api.Piece{plain(1, 0), words("%")}, -0.004, "0%"}, {api.FPercent, []api.Piece{plain(1, 0)}, -0.006, "-1"}, {api.FPercent, []api.Piece{sci(1, 1, 1)}, 0.256, "2.6E+1"}, {api.FPercent, []api.Piece{words("p")}, 1e308, "1E308"}, {api.FPercent, []api.Piece{plain(1, 0)}, 0, "0"},
		// a product that is rounded: 0.07 times 100 is above 7
		{api.FPercent, []api.Piece{plain(1, 15)}, 0.07, "7.000000000000001"}, {api.FPercent, []api.Piece{plain(1, 15)}, 0.29, "28.999999999999996"}, {api.FPercent, []api.Piece{sci(1, 0, 1)}, tiny, "5E-322"},
	} {
		wantBy(t, format(c.kind, c.pieces...), num(c.x), c.want)
	}
}

// P10.4: by FPercent general, where times 100 is no number any more.
func TestShowPercentBeyond(t *testing.T) {
	f := format(api.FPercent, sci(1, 2, 1), words("%"))
	bound := math.MaxFloat64 / 100
	wantBy(t, f, num(1e306), "1.00E+308%")
	wantBy(t, f, num(-1e306), "-1.00E+308%")
	wantBy(t, f, num(bound), "1.80E+308%")
	for _, x := range []float64{1e307, 1.8e306, math.MaxFloat64, math.Nextafter(bound, most) * 1.0000001} {
		s, _ := number.Text(x)
		wantBy(t, f, num(x), s)
		wantBy(t, f, num(-x), "-"+s)
	}
	f.Kind = api.FNumber
	wantBy(t, f, num(math.MaxFloat64), "1.80E+308%")
	// picked, it is general just so, with its sign
	l := []api.Format{{Maps: []api.Map{{Op: api.NLt, To: 1}}}, format(api.FPercent, plain(1, 0))}
	wantShow(t, l, 0, num(-1e307), "-1E307")
}

// P10.4: what a condition has picked is shown without its sign; a condition that leads back to its own format picks nothing.
func TestShowPicked(t *testing.T) {
	lt := func(to int) []api.Map { return []api.Map{{Op: api.NLt, Value: 0, To: to}} }
	l := []api.Format{
		{Kind: api.FNumber, Pieces: []api.Piece{plain(1, 1)}, Maps: lt(1)},
		format(api.FNumber, words("("), plain(1, 1), words(")")),
		{Kind: api.FNumber, Pieces: []api.Piece{plain(1, 1)}, Maps: lt(2)},
		{Maps: lt(4)},
		format(api.FCurrency, sci(1, 0, 1)),
		{Kind: 99, Maps: lt(1)},
		{Kind: api.FNumber, Pieces: []api.Piece{plain(1, 1)}, Maps: lt(7)},
		{},
		{Kind: api.FText, Pieces: []api.Piece{piece(api.PSign)}, Maps: lt(9)},
		format(api.FPercent, plain(1, 0), words("%")),
		{Kind: api.FNumber, Pieces: []api.Piece{plain(1, 1)}, Maps: lt(11)},
		format(api.FNumber, plain(1, 16)),
		{Kind: api.FNumber, Pieces: []api.Piece{plain(1, 1)}, Maps: lt(13)},
		format(api.FDate, long(api.PYear)),
		{Kind: api.FNumber, Pieces: []api.Piece{plain(1, 1)}, Maps: lt(15)},
		wholeTime(piece(api.PHours)),
		{Kind: api.FNumber, Pieces: []api.Piece{plain(1, 1)}, Maps: lt(0)},
	}
	for at, want := range []string{"(2.5)", "-(2.5)", "-2.5", "3E+0", "-3E+0", "(2.5)", "-2.5", "-2.5", "250%", "-250%", "-2.5", "-2.5", "1899", "1899", "-2.5", "-2.5", "2.5"} {
		wantShow(t, l, at, num(-2.5), want)
	}
	for at, want := range []string{"2.5", "(2.5)", "2.5", "2.5", "3E+0", "2.5", "2.5", "2.5", "2.5", "250%", "2.5", "2.5", "2.5", "1900", "2.5", "60", "2.5"} {
		wantShow(t, l, at, num(2.5), want)
	}
	// a To beyond the list: at stays, and Check refuses it
	wantShow(t, l[:1], 0, num(-2.5), "-2.5")
	wantShow(t, l[:1], 0, num(2.25), "2.25")
	// picked by another condition, of a number that is not below 0
	up := []api.Format{{Maps: []api.Map{{Op: api.NGe, Value: 1, To: 1}}}, format(api.FNumber, words(">"), plain(1, 0))}
	wantShow(t, up, 0, num(1), ">1")
	wantShow(t, up, 0, num(0.5), "0.5")
}

// P10.4: days at each edge: each piece, short and long.
func TestShowDates(t *testing.T) {
	bar := words("|")
	short := format(api.FDate, piece(api.PDay), bar, piece(api.PMonth), bar, piece(api.PMonthTxt), bar, piece(api.PYear), bar, piece(api.PWeekday), bar, piece(api.PHours), bar, piece(api.PMinutes), bar, seconds(0, false))
	full := format(api.FDate, long(api.PDay), bar, long(api.PMonth), bar, long(api.PMonthTxt), bar, long(api.PYear), bar, long(api.PWeekday), bar, long(api.PHours), bar, long(api.PMinutes), bar, seconds(3, true))
	const second = 1.0 / 86400
	for _, c := range []struct {
		x           float64
		short, full string
	}{
		{0, "30|12|Dec|99|Sat|0|0|0", "30|12|December|1899|Saturday|00|00|00.000"}, {1, "31|12|Dec|99|Sun|0|0|0", "31|12|December|1899|Sunday|00|00|00.000"}, {2, "1|1|Jan|00|Mon|0|0|0", "01|01|January|1900|Monday|00|00|00.000"}, {36526.75, "1|1|Jan|00|Sat|18|0|0", "01|01|January|2000|Saturday|18|00|00.000"}, {36526 + 3661*second, "1|1|Jan|00|Sat|1|1|1", "01|01|January|2000|Saturday|01|01|01.000"}, {-1, "29|12|Dec|99|Fri|0|0|0", "29|12|December|1899|Friday|00|00|00.000"}, {-0.25, "29|12|Dec|99|Fri|18|0|0", "29|12|December|1899|Friday|18|00|00.000"}, {45000, "15|3|Mar|23|Wed|0|0|0", "15|03|March|2023|Wednesday|00|00|00.000"},
		// the first and the last day
		{first, "1|1|Jan|01|Mon|0|0|0", "01|01|January|0001|Monday|00|00|00.000"}, {first + 100*365, "8|12|Dec|00|Wed|0|0|0", "08|12|December|0100|Wednesday|00|00|00.000"}, {last, "31|12|Dec|99|Fri|0|0|0", "31|12|December|9999|Friday|00|00|00.000"}, {last + 1 - second, "31|12|Dec|99|Fri|23|59|59", "31|12|December|9999|Friday|23|59|59.000"}, {first - 0.4*second, "1|1|Jan|01|Mon|0|0|0", "01|01|January|0001|Monday|00|00|00.000"},
		// a second that is rounded up into the next day, which has another weekday, month and year
		{36526 - 0.4*second, "1|1|Jan|00|Sat|0|0|0", "01|01|January|2000|Saturday|00|00|00.000"}, {36526 - 0.6*second, "31|12|Dec|99|Fri|23|59|59", "31|12|December|1999|Friday|23|59|59.000"},
	} {
		wantBy(t, short, num(c.x), c.short)
		wantBy(t, full, num(c.x), c.full)
	}
	for _, x := range []float64{first - 1, first - 0.6*second, last + 1, last + 1 - 0.4*second, 1e10, -1e10, 1 << 53, 1e300, -1e300, math.MaxFloat64} {
		s, _ := number.Text(x)
		for _, f := range []api.Format{short, full, format(api.FDate, words("x")), format(api.FTime, piece(api.PMinutes)), wholeTime(piece(api.PHours)), wholeTime(words("x"))} {
			wantBy(t, f, num(x), s)
		}
	}
	wantBy(t, format(api.FDate, words("x")), num(-5), "x")
}

// P10.4: each hour of a day, with PHalf and without; PHalf may stand anywhere.
func TestShowHours(t *testing.T) {
	halves := strings.Fields("12AM 1AM 2AM 3AM 4AM 5AM 6AM 7AM 8AM 9AM 10AM 11AM 12PM 1PM 2PM 3PM 4PM 5PM 6PM 7PM 8PM 9PM 10PM 11PM")
	for h, half := range halves {
		hour, text := half[:len(half)-2], half[len(half)-2:]
		two := hour
		if len(hour) == 1 {
			two = "0" + hour
		}
		day := string(rune('0'+h/10)) + string(rune('0'+h%10))
		for _, x := range []float64{float64(h) / 24, 36526 + (float64(h)+0.5)/24, first + float64(h)/24} {
			for _, kind := range []int{api.FDate, api.FTime} {
				wantBy(t, format(kind, piece(api.PHours)), num(x), strings.TrimPrefix(day[:1], "0")+day[1:])
				wantBy(t, format(kind, long(api.PHours)), num(x), day)
				wantBy(t, format(kind, piece(api.PHours), piece(api.PHalf)), num(x), hour+text)
				wantBy(t, format(kind, piece(api.PHalf), words(" "), long(api.PHours)), num(x), text+" "+two)
				wantBy(t, format(kind, piece(api.PHalf), piece(api.PHours), piece(api.PHalf)), num(x), text+hour+text)
				wantBy(t, format(kind, piece(api.PHalf)), num(x), text)
			}
		}
	}
}

// P10.4: with Whole all hours of the number are told, with PHalf, too; below 0 it is general.
func TestShowWhole(t *testing.T) {
	const second = 1.0 / 86400
	clock := wholeTime(piece(api.PHours), words(":"), long(api.PMinutes), words(":"), seconds(0, true))
	half := wholeTime(long(api.PHours), words(" "), piece(api.PHalf))
	for _, c := range []struct {
		x           float64
		clock, half string
	}{
		{0, "0:00:00", "00 AM"}, {0.25, "6:00:00", "06 AM"}, {0.5, "12:00:00", "12 PM"}, {23.0 / 24, "23:00:00", "23 PM"}, {1, "24:00:00", "24 AM"}, {1.5, "36:00:00", "36 PM"}, {2.25 + second, "54:00:01", "54 AM"}, {10, "240:00:00", "240 AM"}, {1 - 0.4*second, "24:00:00", "24 AM"}, {36526.75, "876642:00:00", "876642 PM"}, {last + 0.5, "71003172:00:00", "71003172 PM"},
	} {
		wantBy(t, clock, num(c.x), c.clock)
		wantBy(t, half, num(c.x), c.half)
	}
	short := format(api.FTime, piece(api.PHours), words(":"), long(api.PMinutes), words(":"), seconds(0, true))
	wantBy(t, short, num(1.5), "12:00:00")
	for _, c := range []struct {
		x    float64
		want string
	}{{-0.25, "18:00:00"}, {-1, "0:00:00"}, {-1.5, "12:00:00"}, {-0.4 * second, "0:00:00"}, {-second, "23:59:59"}, {first, "0:00:00"}, {-tiny, "0:00:00"}} {
		wantBy(t, short, num(c.x), c.want)
		s, _ := number.Text(c.x)
		wantBy(t, clock, num(c.x), s)
		wantBy(t, half, num(c.x), s)
	}
}

// P10.4: minutes and seconds, short and long, with places of seconds.
func TestShowSeconds(t *testing.T) {
	x := num((7*60 + 5) * 1.0 / 86400)
	y := num((59*60 + 58) * 1.0 / 86400)
	for places := 0; places <= 15; places++ {
		part := ""
		if places > 0 {
			part = "." + strings.Repeat("0", places)
		}
		for _, kind := range []int{api.FDate, api.FTime} {
			wantBy(t, format(kind, piece(api.PMinutes), words(":"), seconds(places, false)), x, "7:5"+part)
			wantBy(t, format(kind, long(api.PMinutes), words(":"), seconds(places, true)), x, "07:05"+part)
			wantBy(t, format(kind, piece(api.PMinutes), words(":"), seconds(places, false)), y, "59:58"+part)
			wantBy(t, format(kind, long(api.PMinutes), words(":"), seconds(places, true)), y, "59:58"+part)
		}
	}
	// parts of a second are rounded away, not told
	wantBy(t, format(api.FTime, seconds(2, false)), num(1.3/86400), "1.00")
	wantBy(t, format(api.FTime, seconds(2, false)), num(1.7/86400), "2.00")
}

// P10.4: drawn lists and values, some of them spoiled, held against the model.
func TestShowDrawn(t *testing.T) {
	d := draws(41)
	plainly := 0
	for range 40000 {
		l := d.formats(d.yes())
		v := d.value()
		checkShow(t, l, d.below(len(l)+2)-1, v)
		for at := range l {
			checkShow(t, l, at, v)
			if v.Kind != api.VErr && modelShow(l, at, v) != modelGeneral(v) {
				plainly++
			}
		}
	}
	if plainly < 10000 {
		t.Errorf("only %d were shown by a format", plainly)
	}
}

// P10.8: what is shown by formats that Check takes is well-formed UTF-8.
func TestShowIsUTF8(t *testing.T) {
	d := draws(42)
	for range 20000 {
		l := d.formats(false)
		at, v := d.below(len(l)), d.value()
		if s := numfmt.Show(l, at, v); !utf8.ValidString(s) {
			t.Errorf("Show(%s, %d, %s): %q", told(l), at, told(v), s)
		}
	}
}

// P10.8: what is shown stays, if every other format of the list is changed.
func TestShowHangsOnPicked(t *testing.T) {
	d := draws(43)
	changed := 0
	for range 20000 {
		l := d.formats(d.yes())
		at, v := d.below(len(l)+2)-1, d.value()
		want, to := numfmt.Show(l, at, v), numfmt.Pick(l, at, v)
		other := make([]api.Format, len(l))
		for i := range other {
			other[i] = d.format(len(l))
			d.spoil(&other[i])
			if i == to {
				other[i] = l[i]
			} else if i == at {
				// of the one that is asked for just the conditions count
				other[i].Maps = l[i].Maps
			} else {
				changed++
			}
		}
		if got := numfmt.Show(other, at, v); got != want {
			t.Errorf("Show(%s, %d, %s): %q, with others changed %q", told(l), at, told(v), want, got)
		}
	}
	if changed < 1000 {
		t.Errorf("only %d others were changed", changed)
	}
}
