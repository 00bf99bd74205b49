package numfmt_test

import (
	"fmt"
	"math"
	"slices"
	"strings"
	"testing"

	"gridiron/api"
	"gridiron/numfmt"
)

func wantCheck(t *testing.T, f api.Format, many int, want api.Errno) {
	t.Helper()
	if got := numfmt.Check(f, many); got != want {
		t.Errorf("Check(%s, %d): %d, want %d", told(f), many, got, want)
	}
	if model := modelCheck(f, many); model != want {
		t.Errorf("the model of Check(%s, %d): %d, want %d", told(f), many, model, want)
	}
}

// verdict is ErrFormat where something may not be.
func verdict(may bool) api.Errno {
	if may {
		return api.OK
	}
	return api.ErrFormat
}

// some is a piece of a kind that may be, with as few fields as it can have.
func some(kind int) api.Piece {
	p := api.Piece{Kind: kind}
	switch kind {
	case api.PText, api.PSymbol:
		p.Text = "x"
	case api.PSci:
		p.Min, p.Exp = 1, 1
	}
	return p
}

// home is a kind of format that may have pieces of a kind.
func home(piece int) int {
	for kind, pieces := range ownPieces {
		if slices.Contains(pieces, piece) {
			return kind
		}
	}
	return -1
}

var strangeKinds = []int{-1, -2, 8, 9, 15, 256, 1<<32 + 1, math.MinInt, math.MaxInt}

// P10.1: each Kind with each kind of piece, as the chapter's words have it.
func TestCheckKinds(t *testing.T) {
	may := map[int]string{
		//                  PText to PHalf: 1, 2, 3 .. 14
		api.FGeneral:  "..............",
		api.FNumber:   "yyy...........",
		api.FPercent:  "yyy...........",
		api.FCurrency: "yyy.y.........",
		api.FDate:     "y....yyyyyyyyy",
		api.FTime:     "y.........yyyy",
		api.FText:     "y..y..........",
		api.FBool:     "y..y..........",
	}
	for kind, row := range may {
		wantCheck(t, format(kind), 1, api.OK)
		for i, sign := range row {
			wantCheck(t, format(kind, some(i+1)), 1, verdict(sign == 'y'))
			wantCheck(t, format(kind, words("a"), some(i+1), words("b")), 1, verdict(sign == 'y'))
		}
		for _, piece := range append([]int{0, 10 * api.PHalf}, strangeKinds...) {
			if piece < 1 || piece > 14 {
				wantCheck(t, format(kind, api.Piece{Kind: piece}), 1, api.ErrFormat)
				wantCheck(t, format(kind, api.Piece{Kind: piece, Text: "x"}), 1, api.ErrFormat)
			}
		}
	}
	for _, kind := range strangeKinds {
		wantCheck(t, format(kind), 1, api.ErrFormat)
		wantCheck(t, format(kind, words("a")), 1, api.ErrFormat)
	}
}

// P10.1: a field of a piece that is not its own is zero.
func TestCheckFields(t *testing.T) {
	fields := map[string]func(p *api.Piece){
		"T": func(p *api.Piece) { p.Text = "xy" },
		"M": func(p *api.Piece) { p.Min = 2 },
		"P": func(p *api.Piece) { p.Places = 2 },
		"E": func(p *api.Piece) { p.Exp = 2 },
		"G": func(p *api.Piece) { p.Group = true },
		"L": func(p *api.Piece) { p.Long = true },
	}
	own := map[int]string{
		api.PText: "T", api.PNumber: "MPG", api.PSci: "MPE", api.PSign: "", api.PSymbol: "T", api.PDay: "L", api.PMonth: "L", api.PMonthTxt: "L", api.PYear: "L", api.PWeekday: "L", api.PHours: "L", api.PMinutes: "L", api.PSeconds: "LP", api.PHalf: "",
	}
	for kind := api.PText; kind <= api.PHalf; kind++ {
		for name, change := range fields {
			p := some(kind)
			change(&p)
			wantCheck(t, format(home(kind), p), 1, verdict(strings.Contains(own[kind], name)))
			wantCheck(t, format(home(kind), words("a"), p), 1, verdict(strings.Contains(own[kind], name)))
		}
		for _, n := range []int{-1, math.MinInt, math.MaxInt} {
			p := some(kind)
			p.Min = n
			wantCheck(t, format(home(kind), p), 1, api.ErrFormat)
			p = some(kind)
			p.Places = n
			wantCheck(t, format(home(kind), p), 1, api.ErrFormat)
			p = some(kind)
			p.Exp = n
			wantCheck(t, format(home(kind), p), 1, api.ErrFormat)
		}
	}
}

// P10.1: Min, Places and Exp at their edges, and beyond.
func TestCheckBounds(t *testing.T) {
	for _, n := range []int{math.MinInt, -20, -2, -1, 0, 1, 2, 3, 4, 5, 14, 15, 16, 17, 19, 20, 21, 22, 256, 1 << 32, math.MaxInt} {
		wantCheck(t, format(api.FNumber, plain(n, 0)), 1, verdict(0 <= n && n <= 20))
		wantCheck(t, format(api.FNumber, plain(0, n)), 1, verdict(0 <= n && n <= 15))
		wantCheck(t, format(api.FNumber, sci(n, 0, 1)), 1, verdict(1 <= n && n <= 20))
		wantCheck(t, format(api.FNumber, sci(1, n, 1)), 1, verdict(0 <= n && n <= 15))
		wantCheck(t, format(api.FNumber, sci(1, 0, n)), 1, verdict(1 <= n && n <= 4))
		wantCheck(t, format(api.FTime, api.Piece{Kind: api.PSeconds, Places: n}), 1, verdict(0 <= n && n <= 15))
		wantCheck(t, format(api.FDate, api.Piece{Kind: api.PSeconds, Places: n, Long: true}), 1, verdict(0 <= n && n <= 15))
	}
	wantCheck(t, format(api.FPercent, api.Piece{Kind: api.PNumber, Min: 20, Places: 15, Group: true}), 1, api.OK)
	wantCheck(t, format(api.FCurrency, sci(20, 15, 4)), 1, api.OK)
}

// P10.1: a Text has 1 to 256 bytes, and is well-formed UTF-8.
func TestCheckText(t *testing.T) {
	for _, c := range []struct {
		s   string
		may bool
	}{
		{"", false}, {"x", true}, {" ", true}, {"\x00", true}, {"é", true}, {"\uFFFD", true}, {"\U0010FFFF", true},
		{strings.Repeat("x", 255), true}, {strings.Repeat("x", 256), true}, {strings.Repeat("x", 257), false}, {strings.Repeat("x", 1000), false},
		{strings.Repeat("é", 128), true}, {strings.Repeat("é", 128) + "x", false}, {strings.Repeat("é", 129), false}, {strings.Repeat("\U0001F600", 64), true}, {strings.Repeat("\U0001F600", 65), false},
		{"\xff", false}, {"a\xc3", false}, {"\x80", false}, {"\xc0\x80", false}, {"\xed\xa0\x80", false}, {"\xf4\x90\x80\x80", false}, {"a\xffb", false}, {strings.Repeat("x", 255) + "\xc3", false},
	} {
		for kind := api.FNumber; kind <= api.FBool; kind++ {
			wantCheck(t, format(kind, words(c.s)), 1, verdict(c.may))
		}
		wantCheck(t, format(api.FCurrency, api.Piece{Kind: api.PSymbol, Text: c.s}), 1, verdict(c.may))
		wantCheck(t, format(api.FCurrency, words("a"), plain(1, 2), api.Piece{Kind: api.PSymbol, Text: c.s}), 1, verdict(c.may))
	}
}

// P10.1: of PNumber and PSci there is one at most; of other pieces there may be more.
func TestCheckAmounts(t *testing.T) {
	for kind := api.FNumber; kind <= api.FCurrency; kind++ {
		for _, pieces := range [][]api.Piece{{plain(1, 0), plain(1, 0)}, {sci(1, 0, 1), sci(1, 0, 1)}, {plain(1, 0), sci(1, 0, 1)}, {sci(1, 0, 1), plain(1, 0)}, {plain(1, 0), words("x"), plain(2, 2)}, {words("x"), sci(1, 0, 1), words("y"), plain(0, 0), words("z")}, {plain(1, 0), plain(1, 0), plain(1, 0)}} {
			wantCheck(t, format(kind, pieces...), 1, api.ErrFormat)
		}
		wantCheck(t, format(kind, words("x"), plain(1, 0), words("x"), words("y")), 1, api.OK)
		wantCheck(t, format(kind, words("x"), words("y")), 1, api.OK)
	}
	symbol := api.Piece{Kind: api.PSymbol, Text: "€"}
	wantCheck(t, format(api.FCurrency, symbol, plain(1, 2), symbol), 1, api.OK)
	for kind := api.FDate; kind <= api.FBool; kind++ {
		for _, piece := range ownPieces[kind] {
			wantCheck(t, format(kind, some(piece), some(piece), some(piece)), 1, api.OK)
		}
	}
}

// P10.1: Whole with each Kind.
func TestCheckWhole(t *testing.T) {
	for _, kind := range append([]int{0, 1, 2, 3, 4, 5, 6, 7}, strangeKinds...) {
		wantCheck(t, api.Format{Kind: kind, Whole: true}, 1, verdict(kind == api.FTime))
		if kind != api.FGeneral {
			wantCheck(t, api.Format{Kind: kind, Whole: true, Pieces: []api.Piece{words("x")}}, 1, verdict(kind == api.FTime))
		}
	}
}

// P10.1: a condition's Op, Value and To, with each Kind of format.
func TestCheckMaps(t *testing.T) {
	with := func(kind, many int, want api.Errno, maps ...api.Map) {
		t.Helper()
		wantCheck(t, api.Format{Kind: kind, Maps: maps}, many, want)
	}
	good := api.Map{Op: api.NEq}
	for kind := api.FGeneral; kind <= api.FBool; kind++ {
		for _, op := range []int{math.MinInt, -1, 0, 16, 17, 18, 19, 20, 21, 22, 23, 24, 25, 256 + 18, math.MaxInt} {
			with(kind, 1, verdict(18 <= op && op <= 23), api.Map{Op: op})
			with(kind, 1, verdict(18 <= op && op <= 23), good, good, api.Map{Op: op})
		}
		for _, x := range []float64{0, 1, -1, 0.5, tiny, -tiny, math.MaxFloat64, -math.MaxFloat64} {
			with(kind, 1, api.OK, api.Map{Op: api.NLt, Value: x})
		}
		for _, x := range []float64{math.NaN(), math.Float64frombits(0xFFF8000000000001), math.Float64frombits(0x7FF0000000000001), most, least, below0} {
			with(kind, 1, api.ErrFormat, api.Map{Op: api.NGe, Value: x})
			with(kind, 1, api.ErrFormat, good, api.Map{Op: api.NGe, Value: x}, good)
		}
		for _, many := range []int{math.MinInt, -1, 0, 1, 2, 5, math.MaxInt} {
			with(kind, many, api.OK)
			for _, to := range []int{math.MinInt, -2, -1, 0, 1, 4, 5, 6, many - 1, many, many + 1, math.MaxInt} {
				with(kind, many, verdict(0 <= to && to < many), api.Map{Op: api.NLe, To: to})
				with(kind, many, verdict(0 <= to && to < many), api.Map{Op: api.NLe, Value: 3, To: max(0, min(1, many-1))}, api.Map{Op: api.NLe, To: to})
			}
		}
	}
}

// P10.1, R2: as many pieces and conditions as there may be, and one more; that is told ahead of all faults.
func TestCheckLong(t *testing.T) {
	pieces := slices.Repeat([]api.Piece{words("x")}, 200)
	maps := slices.Repeat([]api.Map{{Op: api.NEq}}, 200)
	for _, n := range []int{63, 64, 65, 66, 200} {
		want := verdict(n <= 64)
		if n > 64 {
			want = api.ErrLong
		}
		for kind := api.FNumber; kind <= api.FBool; kind++ {
			wantCheck(t, format(kind, pieces[:n]...), 1, want)
		}
	}
	for _, n := range []int{7, 8, 9, 10, 200} {
		want := verdict(n <= 8)
		if n > 8 {
			want = api.ErrLong
		}
		wantCheck(t, api.Format{Maps: maps[:n]}, 1, want)
		wantCheck(t, api.Format{Kind: api.FText, Pieces: pieces[:64], Maps: maps[:n]}, 1, want)
	}
	wantCheck(t, api.Format{Kind: api.FText, Pieces: pieces[:65], Maps: maps[:9]}, 1, api.ErrLong)
	bad := slices.Clone(pieces)
	bad[0].Kind, bad[63].Text = 99, ""
	badMaps := slices.Clone(maps)
	badMaps[0].Op = 0
	badMaps[7].Value = math.NaN()
	for _, c := range []struct {
		f    api.Format
		want api.Errno
	}{
		{api.Format{Kind: api.FText, Pieces: bad[:65]}, api.ErrLong},
		{api.Format{Kind: api.FText, Pieces: bad[:64]}, api.ErrFormat},
		{api.Format{Kind: api.FText, Pieces: bad[1:64]}, api.ErrFormat},
		{api.Format{Kind: api.FText, Pieces: bad[1:63]}, api.OK},
		{api.Format{Kind: -1, Pieces: pieces[:65]}, api.ErrLong},
		{api.Format{Kind: 8, Maps: maps[:9]}, api.ErrLong},
		{api.Format{Whole: true, Maps: maps[:9]}, api.ErrLong},
		{api.Format{Pieces: pieces[:1], Maps: maps[:9]}, api.ErrLong},
		{api.Format{Maps: badMaps[:9]}, api.ErrLong},
		{api.Format{Maps: badMaps[:8]}, api.ErrFormat},
		{api.Format{Maps: badMaps[1:8]}, api.ErrFormat},
		{api.Format{Maps: badMaps[1:7]}, api.OK},
		{api.Format{Kind: api.FText, Pieces: bad[:65], Maps: badMaps[:8]}, api.ErrLong},
		{api.Format{Kind: api.FText, Pieces: bad[:64], Maps: maps[:9]}, api.ErrLong},
	} {
		wantCheck(t, c.f, 1, c.want)
	}
	wantCheck(t, api.Format{Maps: maps[:9]}, -1, api.ErrLong)
}

// P10.1: drawn formats, those that may be and those that are spoiled, held against the model.
func TestCheckDrawn(t *testing.T) {
	d := draws(11)
	seen := map[api.Errno]int{}
	for range 30000 {
		many := 1 + d.below(4)
		f := d.format(many)
		wantCheck(t, f, many, api.OK)
		d.spoil(&f)
		want := modelCheck(f, many)
		seen[want]++
		wantCheck(t, f, many, want)
	}
	if seen[api.OK] < 1000 || seen[api.ErrFormat] < 1000 {
		t.Errorf("too few of a kind: %v", seen)
	}
}

func wantSame(t *testing.T, a, b api.Format, want bool) {
	t.Helper()
	if numfmt.Same(a, b) != want || numfmt.Same(b, a) != want {
		t.Errorf("Same(%s, %s): not %v", told(a), told(b), want)
	}
}

// whole is a format that has something in each field, whether it may be or not.
func whole() api.Format {
	return api.Format{
		Kind:   api.FTime,
		Pieces: []api.Piece{{Kind: 1, Text: "a", Min: 2, Places: 3, Exp: 4, Group: true, Long: true}, {Kind: 2}},
		Maps:   []api.Map{{Op: api.NLt, Value: 1.5, To: 2}, {Op: api.NGe, Value: -2, To: 1}},
		Whole:  true,
	}
}

// P10.1: formats that differ in one field are not the same, whether they may be or not.
func TestSameFields(t *testing.T) {
	wantSame(t, whole(), whole(), true)
	wantSame(t, api.Format{}, api.Format{}, true)
	for name, change := range map[string]func(f *api.Format){
		"Kind":         func(f *api.Format) { f.Kind++ },
		"Whole":        func(f *api.Format) { f.Whole = false },
		"Piece.Kind":   func(f *api.Format) { f.Pieces[0].Kind = 5 },
		"Piece.Text":   func(f *api.Format) { f.Pieces[0].Text = "A" },
		"Piece.Min":    func(f *api.Format) { f.Pieces[0].Min = -2 },
		"Piece.Places": func(f *api.Format) { f.Pieces[0].Places = 0 },
		"Piece.Exp":    func(f *api.Format) { f.Pieces[0].Exp = 5 },
		"Piece.Group":  func(f *api.Format) { f.Pieces[0].Group = false },
		"Piece.Long":   func(f *api.Format) { f.Pieces[0].Long = false },
		"last Piece":   func(f *api.Format) { f.Pieces[1].Long = true },
		"fewer Pieces": func(f *api.Format) { f.Pieces = f.Pieces[:1] },
		"more Pieces":  func(f *api.Format) { f.Pieces = append(f.Pieces, api.Piece{}) },
		"no Pieces":    func(f *api.Format) { f.Pieces = nil },
		"order":        func(f *api.Format) { slices.Reverse(f.Pieces) },
		"Map.Op":       func(f *api.Format) { f.Maps[0].Op = api.NLe },
		"Map.Value":    func(f *api.Format) { f.Maps[0].Value = math.Nextafter(1.5, 2) },
		"Map.To":       func(f *api.Format) { f.Maps[0].To = 3 },
		"last Map":     func(f *api.Format) { f.Maps[1].Value = 2 },
		"fewer Maps":   func(f *api.Format) { f.Maps = f.Maps[:1] },
		"more Maps":    func(f *api.Format) { f.Maps = append(f.Maps, api.Map{}) },
		"no Maps":      func(f *api.Format) { f.Maps = []api.Map{} },
		"order of Maps": func(f *api.Format) {
			slices.Reverse(f.Maps)
		},
	} {
		other := whole()
		change(&other)
		if numfmt.Same(whole(), other) || numfmt.Same(other, whole()) {
			t.Errorf("another %s: the same", name)
		}
		wantSame(t, other, other, true)
	}
}

// P10.1: nil and empty lists are the same.
func TestSameEmpty(t *testing.T) {
	lists := []api.Format{{}, {Pieces: []api.Piece{}}, {Maps: []api.Map{}}, {Pieces: []api.Piece{}, Maps: make([]api.Map, 0, 5)}, {Pieces: make([]api.Piece, 0, 5)}}
	for _, a := range lists {
		for _, b := range lists {
			wantSame(t, a, b, true)
		}
		wantSame(t, a, api.Format{Pieces: []api.Piece{{}}}, false)
		wantSame(t, a, api.Format{Maps: []api.Map{{}}}, false)
	}
}

// P10.1: Values are held against each other by ==.
func TestSameValues(t *testing.T) {
	of := func(x float64) api.Format { return api.Format{Maps: []api.Map{{Op: api.NEq, Value: x}}} }
	wantSame(t, of(0), of(below0), true)
	wantSame(t, of(below0), of(below0), true)
	wantSame(t, of(most), of(most), true)
	wantSame(t, of(most), of(least), false)
	wantSame(t, of(tiny), of(0), false)
	nan := of(math.NaN())
	wantSame(t, nan, nan, false)
	wantSame(t, nan, of(math.NaN()), false)
	wantSame(t, nan, of(1), false)
}

// P10.1: drawn formats, and each with one thing changed, held against what the formats say as texts.
func TestSameDrawn(t *testing.T) {
	d := draws(12)
	for range 20000 {
		a := d.format(3)
		b := a
		b.Pieces, b.Maps = slices.Clone(a.Pieces), slices.Clone(a.Maps)
		wantSame(t, a, b, true)
		d.spoil(&b)
		wantSame(t, a, b, fmt.Sprint(a) == fmt.Sprint(b))
	}
}
