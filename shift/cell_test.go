package shift_test

import (
	"testing"

	"gridiron/api"
	"gridiron/shift"
)

func wantCell(t *testing.T, sheets []string, x api.Shift, a, want api.Addr, stays bool) {
	t.Helper()
	if got, is := shift.Cell(sheets, x, a); got != want || is != stays {
		t.Errorf("Cell(%q, %s, %s): %s, %v, want %s, %v", sheets, told(x), told(a), told(got), is, told(want), stays)
	}
}

// wantLines tells where the rows or columns of the second of three sheets lie, -1: they go; those of the others stay.
func wantLines(t *testing.T, x api.Shift, lines map[int]int) {
	t.Helper()
	sheets := []string{"a", "b", "c"}
	for line, want := range lines {
		for sheet := range sheets {
			a := api.Addr{Sheet: sheet, Row: line, Col: 7}
			out := api.Addr{Sheet: sheet, Row: want, Col: 7}
			if x.Kind == api.SInsCols || x.Kind == api.SDelCols {
				a.Row, a.Col, out.Row, out.Col = 7, line, 7, want
			}
			switch {
			case sheet != 1:
				wantCell(t, sheets, x, a, a, true)
			case want < 0:
				wantCell(t, sheets, x, a, api.Addr{}, false)
			default:
				wantCell(t, sheets, x, a, out, true)
			}
		}
	}
}

// P15.2: rows and columns ahead of At, at At, at At + N - 1, at At + N and the last ones.
func TestCellLines(t *testing.T) {
	for _, kind := range lineKinds() {
		limit, _ := limitOf(kind)
		last := limit - 1
		x := func(at, n int) api.Shift { return api.Shift{Kind: kind, Sheet: "B", At: at, N: n} }
		if kind == api.SInsRows || kind == api.SInsCols {
			wantLines(t, x(5, 3), map[int]int{0: 0, 4: 4, 5: 8, 6: 9, 7: 10, 8: 11, last - 3: last, last - 2: -1, last: -1})
			wantLines(t, x(0, 1), map[int]int{0: 1, 1: 2, last - 1: last, last: -1})
			wantLines(t, x(last, 1), map[int]int{0: 0, last - 1: last - 1, last: -1})
			wantLines(t, x(0, limit), map[int]int{0: -1, 1: -1, last: -1})
			wantLines(t, x(0, last), map[int]int{0: last, 1: -1, last: -1})
			wantLines(t, x(1, last), map[int]int{0: 0, 1: -1, last: -1})
			continue
		}
		wantLines(t, x(5, 3), map[int]int{0: 0, 4: 4, 5: -1, 6: -1, 7: -1, 8: 5, 9: 6, last: last - 3})
		wantLines(t, x(0, 1), map[int]int{0: -1, 1: 0, last: last - 1})
		wantLines(t, x(last, 1), map[int]int{0: 0, last - 1: last - 1, last: -1})
		wantLines(t, x(0, limit), map[int]int{0: -1, 1: -1, last: -1})
		wantLines(t, x(0, last), map[int]int{0: -1, last - 1: -1, last: 0})
		wantLines(t, x(1, last), map[int]int{0: 0, 1: -1, last: -1})
	}
}

// P15.2: sheets change their numbers as their names do.
func TestCellSheets(t *testing.T) {
	for _, n := range []int{1, 2, 3, 5, api.MaxSheets} {
		l := many(n)
		var all []api.Shift
		for i, sheet := range l {
			for at := range n + 1 {
				all = append(all, api.Shift{Kind: api.SMoveSheet, Sheet: sheet, At: at}, api.Shift{Kind: api.SInsSheet, At: at, Name: "new"})
			}
			all = append(all, api.Shift{Kind: api.SDelSheet, Sheet: sheet}, api.Shift{Kind: api.SNameSheet, Sheet: sheet, Name: []string{"new", sheet}[i%2]})
		}
		for _, x := range all {
			names, errno := shift.Sheets(l, x)
			for i, name := range l {
				a := api.Addr{Sheet: i, Row: api.MaxRows - 1, Col: i}
				if x.Kind == api.SNameSheet && x.Sheet == name {
					name = x.Name
				}
				want, stays := shift.Find(names, name)
				if stays {
					wantCell(t, l, x, a, api.Addr{Sheet: want, Row: a.Row, Col: i}, true)
				} else {
					wantCell(t, l, x, a, api.Addr{}, false)
				}
				if gone := errno != api.OK || x.Kind == api.SDelSheet && x.Sheet == name; gone == stays {
					t.Errorf("Sheets(%q, %s): %q, %d", l, told(x), names, errno)
				}
			}
		}
	}
}

// P15.2: places that there are not, of each kind.
func TestCellNone(t *testing.T) {
	sheets := []string{"a", "b", "c"}
	for kind := api.SInsRows; kind <= api.SNameSheet; kind++ {
		for _, n := range append(extremes(), -1) {
			wantCell(t, sheets, good(kind), api.Addr{Sheet: n}, api.Addr{}, false)
			wantCell(t, sheets, good(kind), api.Addr{Sheet: 1, Row: n}, api.Addr{}, false)
			wantCell(t, sheets, good(kind), api.Addr{Sheet: 1, Col: n}, api.Addr{}, false)
			wantCell(t, sheets, good(kind), api.Addr{Row: n, Col: n}, api.Addr{}, false)
		}
		wantCell(t, sheets, good(kind), api.Addr{Sheet: 3}, api.Addr{}, false)
		for sheet := range sheets {
			wantCell(t, sheets, good(kind), api.Addr{Sheet: sheet, Row: api.MaxRows}, api.Addr{}, false)
			wantCell(t, sheets, good(kind), api.Addr{Sheet: sheet, Col: api.MaxCols}, api.Addr{}, false)
		}
		wantCell(t, nil, good(kind), api.Addr{}, api.Addr{}, false)
	}
	// the first one of two sheets that are alike is the shift's
	wantCell(t, []string{"a", "A"}, api.Shift{Kind: api.SInsRows, Sheet: "A", N: 2}, api.Addr{Sheet: 1}, api.Addr{Sheet: 1}, true)
	wantCell(t, []string{"a", "A"}, api.Shift{Kind: api.SInsRows, Sheet: "A", N: 2}, api.Addr{}, api.Addr{Row: 2}, true)
}

// P15.2: every column, and cells of each kind at each edge, held against the model.
func TestCellEach(t *testing.T) {
	sheets := []string{"a", "b", "c"}
	for _, kind := range lineKinds() {
		limit, _ := limitOf(kind)
		for _, at := range []int{0, 1, 2, 500, limit - 3, limit - 1} {
			for _, n := range []int{1, 2, 3, 100, limit - at - 1, limit - at} {
				x := api.Shift{Kind: kind, Sheet: "b", At: at, N: n}
				if shift.Check(sheets, x) != api.OK {
					continue
				}
				m := modelOf(sheets, x)
				for line := range limit {
					if line > 1030 && line < limit-1030 && line%997 > 0 {
						continue
					}
					a := api.Addr{Sheet: line % 4, Row: line, Col: 3}
					if m.across() {
						a.Row, a.Col = 3, line
					}
					for a.Sheet = range 4 {
						want, stays := m.cell(a)
						wantCell(t, sheets, x, a, want, stays)
					}
				}
			}
		}
	}
}
