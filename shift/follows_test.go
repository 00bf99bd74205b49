package shift_test

import (
	"cmp"
	"maps"
	"slices"
	"testing"

	"gridiron/api"
	"gridiron/refs"
	"gridiron/shift"
	"gridiron/syntax"
)

// drawn is a drawn shift of drawn sheets, most often one that may be, with its model, if it may.
func (d *draws) drawn() ([]string, api.Shift, *model) {
	sheets := d.sheets()
	x := d.shift(sheets)
	for range 3 {
		if modelCheck(sheets, x) != api.OK {
			x = d.shift(sheets)
		}
	}
	if modelCheck(sheets, x) != api.OK {
		return sheets, x, nil
	}
	return sheets, x, modelOf(sheets, x)
}

// P15.1 to P15.4: drawn sheets, shifts, cells and references, held against the model.
func TestDrawn(t *testing.T) {
	d := draws(5)
	kinds := [9]int{}
	for range 1000 {
		sheets, x, m := d.drawn()
		wantCheck(t, sheets, x, modelCheck(sheets, x))
		if m == nil {
			continue
		}
		kinds[x.Kind]++
		wantSheets(t, sheets, x, m.names)
		for range 60 {
			a := d.address(sheets, x)
			want, stays := m.cell(a)
			wantCell(t, sheets, x, a, want, stays)
			checkRef(t, m, d.name(sheets), d.ref(sheets, x))
		}
	}
	for kind, n := range kinds {
		if kind > 0 && n < 30 {
			t.Errorf("the kind %d was drawn %d times", kind, n)
		}
	}
}

// P15.5: what lies ahead stays ahead, and unlike cells become unlike ones.
func TestMap(t *testing.T) {
	d := draws(6)
	for range 3000 {
		sheets := d.sheets()
		x := d.shift(sheets)
		if shift.Check(sheets, x) != api.OK {
			continue
		}
		for range 40 {
			a, b := d.address(sheets, x), d.address(sheets, x)
			if d.below(4) == 0 {
				b = pick(&d, a, api.Addr{Sheet: a.Sheet, Row: a.Row, Col: b.Col}, api.Addr{Sheet: a.Sheet, Row: b.Row, Col: a.Col})
			}
			c, isC := shift.Cell(sheets, x, a)
			e, isE := shift.Cell(sheets, x, b)
			if !isC || !isE {
				continue
			}
			same := a.Sheet == b.Sheet
			order := cmp.Compare(a.Row, b.Row) == cmp.Compare(c.Row, e.Row) && cmp.Compare(a.Col, b.Col) == cmp.Compare(c.Col, e.Col)
			if (a == b) != (c == e) || same != (c.Sheet == e.Sheet) || same && !order {
				t.Errorf("%s: %s and %s become %s and %s", told(x), told(a), told(b), told(c), told(e))
			}
		}
	}
}

// cellsOf are the cells that a reference in a formula of a sheet has, one by one: none, if it may not be.
func cellsOf(sheets []string, own string, r api.Ref) map[api.Addr]int {
	if refs.Check(r) != api.OK {
		return nil
	}
	if r.Sheet == "" {
		r.Sheet = own
	}
	if r.To == "" {
		r.To = r.Sheet
	}
	if !r.Area {
		r.B = r.A
	}
	out := map[api.Addr]int{}
	from, to := modelFind(sheets, r.Sheet), modelFind(sheets, r.To)
	if from < 0 || to < 0 {
		return out
	}
	for sheet := min(from, to); sheet <= max(from, to); sheet++ {
		for row := min(r.A.Row, r.B.Row); row <= max(r.A.Row, r.B.Row); row++ {
			for col := min(r.A.Col, r.B.Col); col <= max(r.A.Col, r.B.Col); col++ {
				out[api.Addr{Sheet: sheet, Row: row, Col: col}] = 1
			}
		}
	}
	return out
}

// goAlong tells whether a reference is neither touched nor goes; then it holds its cells, moved, against those of what it becomes.
func goAlong(t *testing.T, sheets []string, x api.Shift, own string, r api.Ref) bool {
	t.Helper()
	now, stays := shift.Ref(sheets, x, own, r)
	if !stays || shift.Touches(sheets, x, own, r) {
		return false
	}
	moved := map[api.Addr]int{}
	for a := range cellsOf(sheets, own, r) {
		if b, remains := shift.Cell(sheets, x, a); remains {
			moved[b] = 1
		}
	}
	names, _ := shift.Sheets(sheets, x)
	if x.Kind == api.SNameSheet && modelAlike(own, x.Sheet) {
		own = x.Name
	}
	if !maps.Equal(moved, cellsOf(names, own, now)) {
		t.Errorf("%q, %s, %q: %s becomes %s, which has other cells", sheets, told(x), own, told(r), told(now))
	}
	return true
}

// P15.6: references that are not touched go along with their cells.
func TestReferencesGoAlong(t *testing.T) {
	d := draws(7)
	along := 0
	for range 6000 {
		sheets := d.sheets()
		sheets = sheets[:min(len(sheets), 6)]
		x := d.shift(sheets)
		if shift.Check(sheets, x) != api.OK {
			continue
		}
		for range 12 {
			r := d.ref(sheets, x)
			if r.Area {
				r.B.Row = max(0, min(api.MaxRows-1, r.A.Row+d.below(9)-4))
				r.B.Col = max(0, min(api.MaxCols-1, r.A.Col+d.below(7)-3))
			}
			// a formula stands in one of the sheets, or is a named expression
			if goAlong(t, sheets, x, d.letters(pick(&d, append(sheets, "")...)), r) {
				along++
			}
		}
	}
	if along < 20000 {
		t.Errorf("%d references", along)
	}
}

// P15.6: every area of some rows and columns at the edges of what comes and goes, of one sheet and of more.
func TestReferencesGoAlongEach(t *testing.T) {
	sheets := []string{"a", "b", "c"}
	for kind := api.SInsRows; kind <= api.SNameSheet; kind++ {
		for _, at := range []int{0, 1, 2, api.MaxCols - 3, api.MaxRows - 3} {
			x := good(kind)
			x.At, x.Sheet = at, "b"
			if shift.Check(sheets, x) != api.OK {
				continue
			}
			across := kind == api.SInsCols || kind == api.SDelCols
			for _, first := range lines(x, api.MaxCols) {
				for second := max(0, first-3); second < first+4; second++ {
					r := api.Ref{Area: true, A: api.Corner{Row: first}, B: api.Corner{Row: second}}
					if across {
						r.A, r.B = api.Corner{Col: first}, api.Corner{Col: second}
					}
					for _, names := range [][2]string{{"", ""}, {"a", ""}, {"b", ""}, {"c", ""}, {"a", "b"}, {"b", "c"}, {"c", "a"}, {"new", ""}, {"a", "new"}} {
						r.Sheet, r.To = names[0], names[1]
						for _, own := range sheets {
							goAlong(t, sheets, x, own, r)
						}
					}
				}
			}
		}
	}
}

// P15.7: what comes and goes again leaves all as it was that was not pushed out.
func TestTakenBack(t *testing.T) {
	d := draws(8)
	back := 0
	for range 4000 {
		sheets, own := d.sheets(), ""
		x := d.shift(sheets)
		come, gone := x, x
		come.Kind, gone.Kind = api.SInsRows, api.SDelRows
		if d.below(3) == 0 {
			come.Kind, gone.Kind = api.SInsCols, api.SDelCols
		}
		if shift.Check(sheets, come) != api.OK {
			continue
		}
		own = d.name(sheets)
		m := &model{x: come}
		limit, _ := limitOf(come.Kind)
		if l, errno := shift.Sheets(sheets, come); errno != api.OK || !slices.Equal(l, sheets) {
			t.Errorf("Sheets(%s): %q", told(come), l)
		}
		var kept []api.Term
		for range 20 {
			a := d.address(sheets, x)
			if b, stays := shift.Cell(sheets, come, a); stays {
				wantCell(t, sheets, gone, b, a, true)
			}
			r := d.ref(sheets, x)
			if first, second := m.ends(r); max(first, second) >= x.At && max(first, second) >= limit-x.N {
				continue
			}
			between, stays := shift.Ref(sheets, come, own, r)
			if !stays {
				t.Errorf("Ref(%s, %s): it goes", told(come), told(r))
			}
			wantRef(t, sheets, gone, own, between, r, true)
			kept = append(kept, api.Term{Op: api.NRef, Ref: r})
			back++
		}
		term := api.Term{Op: api.NCall, Name: "F", Args: kept}
		if got := shift.Term(sheets, gone, own, shift.Term(sheets, come, own, term)); !syntax.Same(got, term) {
			t.Errorf("%s: %s became %s", told(come), told(term), told(got))
		}
	}
	if back < 10000 {
		t.Errorf("%d references", back)
	}
}
