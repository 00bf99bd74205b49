package shift

import (
	"slices"
	"strings"

	"gridiron/api"
)

// Sheets are the sheets' names behind a shift.
func Sheets(sheets []string, x api.Shift) ([]string, api.Errno) {
	if errno := Check(sheets, x); errno != api.OK {
		return nil, errno
	}
	names := make([]string, len(sheets))
	copy(names, sheets)
	sheet, _ := Find(sheets, x.Sheet)
	switch x.Kind {
	case api.SInsSheet:
		names = slices.Insert(names, x.At, x.Name)
	case api.SDelSheet:
		names = slices.Delete(names, sheet, sheet+1)
	case api.SMoveSheet:
		names = slices.Delete(names, sheet, sheet+1)
		names = slices.Insert(names, x.At, sheets[sheet])
	case api.SNameSheet:
		names[sheet] = x.Name
	}
	for i, name := range names {
		// what is handed in is not kept
		names[i] = strings.Clone(name)
	}
	return names, api.OK
}

// Cell is where a cell lies behind a shift, if it does not go.
func Cell(sheets []string, x api.Shift, a api.Addr) (api.Addr, bool) {
	if Check(sheets, x) != api.OK || !isCell(a, len(sheets)) {
		return api.Addr{}, false
	}
	out, stays := cellMoved(sheets, x, a)
	if !stays {
		return api.Addr{}, false
	}
	return out, true
}

// isCell tells whether a cell is one of so many sheets.
func isCell(a api.Addr, sheets int) bool {
	return 0 <= a.Sheet && a.Sheet < sheets &&
		0 <= a.Row && a.Row < api.MaxRows &&
		0 <= a.Col && a.Col < api.MaxCols
}

// cellMoved is where a cell lies behind a shift that may be, if it does not go.
func cellMoved(sheets []string, x api.Shift, a api.Addr) (api.Addr, bool) {
	sheet, _ := Find(sheets, x.Sheet)
	b, lines := bandOf(x)
	stays := true
	switch {
	case !lines:
		a.Sheet, stays = sheetMoved(sheet, x, a.Sheet)
	case a.Sheet != sheet:
	case b.across:
		a.Col, stays = b.moved(a.Col)
	default:
		a.Row, stays = b.moved(a.Row)
	}
	return a, stays
}

// sheetMoved is the number of a sheet behind a shift of the one with the number own, if it does not go.
func sheetMoved(own int, x api.Shift, n int) (int, bool) {
	switch {
	case x.Kind == api.SInsSheet:
		return behindNew(x.At, n), true
	case x.Kind == api.SDelSheet:
		return behindGone(own, n), n != own
	case x.Kind != api.SMoveSheet:
		return n, true
	case n == own:
		return x.At, true
	}
	return behindNew(x.At, behindGone(own, n)), true
}

// behindNew is a sheet's number, if one comes at a place.
func behindNew(at, n int) int {
	if n >= at {
		return n + 1
	}
	return n
}

// behindGone is a sheet's number, if another one goes.
func behindGone(gone, n int) int {
	if n > gone {
		return n - 1
	}
	return n
}
