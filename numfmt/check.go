package numfmt

import (
	"math"
	"slices"
	"unicode/utf8"

	"gridiron/api"
)

// The bounds of a piece's fields.
const (
	mostMin    = 20
	mostPlaces = 15
	mostExp    = 4
	mostBytes  = 256
)

// Check tells whether a format may be, as one of a list of so many.
func Check(f api.Format, many int) api.Errno {
	switch {
	case len(f.Pieces) > api.MaxPieces || len(f.Maps) > api.MaxMaps:
		return api.ErrLong
	case f.Kind < api.FGeneral || f.Kind > api.FBool || f.Whole && f.Kind != api.FTime:
		return api.ErrFormat
	case !piecesFit(f) || !mapsFit(f.Maps, many):
		return api.ErrFormat
	}
	return api.OK
}

func piecesFit(f api.Format) bool {
	amounts := 0
	for _, p := range f.Pieces {
		if !mayHave(f.Kind, p.Kind) || !pieceFits(p) {
			return false
		}
		if isAmount(p.Kind) {
			amounts++
		}
	}
	return amounts <= 1
}

// isAmount tells whether pieces of a kind tell a number, of which a format has one at most.
func isAmount(piece int) bool {
	return piece == api.PNumber || piece == api.PSci
}

// mayHave tells whether formats of a kind may have pieces of a kind.
func mayHave(format, piece int) bool {
	if piece == api.PText {
		return format != api.FGeneral
	}
	switch format {
	case api.FNumber, api.FPercent:
		return isAmount(piece)
	case api.FCurrency:
		return isAmount(piece) || piece == api.PSymbol
	case api.FDate:
		return api.PDay <= piece && piece <= api.PHalf
	case api.FTime:
		return api.PHours <= piece && piece <= api.PHalf
	case api.FText, api.FBool:
		return piece == api.PSign
	}
	return false
}

// pieceFits tells whether a piece of a kind that there is has just the fields of its kind, within their bounds.
// It is held against one that has these fields alone, so that none of the others is forgotten.
func pieceFits(p api.Piece) bool {
	own := api.Piece{Kind: p.Kind}
	fits := true
	switch p.Kind {
	case api.PText, api.PSymbol:
		own.Text = p.Text
		fits = textFits(p.Text)
	case api.PNumber:
		own.Min, own.Places, own.Group = p.Min, p.Places, p.Group
		fits = numberFits(p.Min, p.Places)
	case api.PSci:
		own.Min, own.Places, own.Exp = p.Min, p.Places, p.Exp
		fits = sciFits(p.Min, p.Places, p.Exp)
	case api.PSeconds:
		own.Places, own.Long = p.Places, p.Long
		fits = within(p.Places, 0, mostPlaces)
	case api.PDay, api.PMonth, api.PMonthTxt, api.PYear, api.PWeekday, api.PHours, api.PMinutes:
		own.Long = p.Long
	}
	return fits && p == own
}

func textFits(s string) bool {
	return within(len(s), 1, mostBytes) && utf8.ValidString(s)
}

func numberFits(least, places int) bool {
	return within(least, 0, mostMin) && within(places, 0, mostPlaces)
}

func sciFits(least, places, exp int) bool {
	return within(least, 1, mostMin) && within(places, 0, mostPlaces) && within(exp, 1, mostExp)
}

func within(n, least, most int) bool {
	return least <= n && n <= most
}

func mapsFit(maps []api.Map, many int) bool {
	for _, m := range maps {
		if !within(m.Op, api.NEq, api.NGe) || !valueFits(m.Value) || m.To < 0 || m.To >= many {
			return false
		}
	}
	return true
}

// valueFits tells whether a number is finite and no -0.
func valueFits(x float64) bool {
	return !math.IsNaN(x) && !math.IsInf(x, 0) && (x != 0 || !math.Signbit(x))
}

// Same tells whether two formats are the same, field by field.
func Same(a, b api.Format) bool {
	return a.Kind == b.Kind && a.Whole == b.Whole && slices.Equal(a.Pieces, b.Pieces) && slices.Equal(a.Maps, b.Maps)
}
