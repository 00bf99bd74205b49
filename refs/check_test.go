package refs_test

import (
	"math"
	"strings"
	"testing"

	"gridiron/api"
	"gridiron/refs"
)

func wantCheck(t *testing.T, r api.Ref, want api.Errno) {
	t.Helper()
	if got := refs.Check(r); got != want {
		t.Errorf("Check(%s): %d, want %d", told(r), got, want)
	}
	if model := modelCheck(r); model != want {
		t.Errorf("the model of Check(%s): %d, want %d", told(r), model, want)
	}
	if want == api.OK {
		return
	}
	if text, errno := refs.Text(r); text != "" || errno != want {
		t.Errorf("Text(%s): %q, %d, want %d", told(r), text, errno, want)
	}
}

// P11.2: each row and column at its edges and one beyond, of a cell and of both corners of an area.
func TestCheckEdges(t *testing.T) {
	rows := map[int]bool{math.MinInt: false, -1: false, 0: true, 1: true, api.MaxCols: true, api.MaxRows - 1: true, api.MaxRows: false, 1 << 32: false, math.MaxInt: false}
	cols := map[int]bool{math.MinInt: false, -1: false, 0: true, 1: true, api.MaxCols - 1: true, api.MaxCols: false, api.MaxRows - 1: false, 1 << 32: false, math.MaxInt: false}
	for row, rowFits := range rows {
		for col, colFits := range cols {
			want := api.ErrAddr
			if rowFits && colFits {
				want = api.OK
			}
			c, other := api.Corner{Row: row, Col: col, AbsRow: true}, api.Corner{Row: 7, Col: 5, AbsCol: true}
			wantCheck(t, api.Ref{A: c}, want)
			wantCheck(t, api.Ref{Sheet: "a", Fixed: true, A: c}, want)
			wantCheck(t, api.Ref{Area: true, A: c, B: other}, want)
			wantCheck(t, api.Ref{Area: true, A: other, B: c}, want)
			wantCheck(t, api.Ref{Area: true, A: c, B: c}, want)
			wantCheck(t, api.Ref{Sheet: "a", To: "b", Area: true, A: other, B: c}, want)
		}
	}
}

// P11.2: where there is no Area, each field of B is zero.
func TestCheckNoArea(t *testing.T) {
	wantCheck(t, api.Ref{}, api.OK)
	for _, b := range []api.Corner{{Row: 1}, {Col: 1}, {AbsRow: true}, {AbsCol: true}, {Row: -1}, {Col: -1}, {Row: 3, Col: 4, AbsRow: true, AbsCol: true}, {Row: math.MinInt}, {Col: math.MaxInt}} {
		wantCheck(t, api.Ref{B: b}, api.ErrAddr)
		wantCheck(t, api.Ref{A: b, B: b}, api.ErrAddr)
		wantCheck(t, api.Ref{Sheet: "a", B: b}, api.ErrAddr)
	}
	wantCheck(t, api.Ref{Area: true}, api.OK)
	wantCheck(t, api.Ref{Area: true, B: api.Corner{AbsRow: true, AbsCol: true}}, api.OK)
	wantCheck(t, api.Ref{Area: true, A: api.Corner{Row: 9, Col: 9}}, api.OK)
	wantCheck(t, api.Ref{Area: true, A: api.Corner{Row: 9}, B: api.Corner{Col: 9}}, api.OK)
}

// P11.2: sheets' names, and what may not stand without one.
func TestCheckSheets(t *testing.T) {
	long := strings.Repeat("a", api.MaxName)
	for _, name := range []string{"a", "x y", "1", "é", long, " ", "\uFFFD"} {
		wantCheck(t, api.Ref{Sheet: name}, api.OK)
		wantCheck(t, api.Ref{Sheet: name, Fixed: true}, api.OK)
		wantCheck(t, api.Ref{Sheet: name, Area: true}, api.OK)
		wantCheck(t, api.Ref{Sheet: "b", To: name, Area: true}, api.OK)
		wantCheck(t, api.Ref{Sheet: name, To: name, Area: true, Fixed: true}, api.OK)
		wantCheck(t, api.Ref{To: name, Area: true}, api.ErrSheet)
		wantCheck(t, api.Ref{To: name}, api.ErrSheet)
		wantCheck(t, api.Ref{Sheet: "b", To: name}, api.ErrAddr)
	}
	for _, name := range []string{"a:b", "'a'", "[", "\x00", "a\n", "\xFF", long + "a", "\uFFFE"} {
		wantCheck(t, api.Ref{Sheet: name}, api.ErrSheet)
		wantCheck(t, api.Ref{Sheet: name, To: "b", Area: true}, api.ErrSheet)
		wantCheck(t, api.Ref{Sheet: "b", To: name, Area: true}, api.ErrSheet)
		wantCheck(t, api.Ref{Sheet: "b", To: name}, api.ErrSheet)
		wantCheck(t, api.Ref{To: name, Area: true}, api.ErrSheet)
	}
	wantCheck(t, api.Ref{Fixed: true}, api.ErrSheet)
	wantCheck(t, api.Ref{Fixed: true, Area: true}, api.ErrSheet)
	wantCheck(t, api.Ref{Fixed: true, To: "a", Area: true}, api.ErrSheet)
}

// P11.2, R2: of two faults that of the sheets is told.
func TestCheckOrder(t *testing.T) {
	faults := []api.Ref{{Sheet: "a:b"}, {Sheet: "a", To: "a:b"}, {To: "a"}, {Fixed: true}}
	for _, r := range faults {
		for _, spoil := range []func(*api.Ref){
			func(r *api.Ref) { r.A.Row = -1 },
			func(r *api.Ref) { r.A.Col = api.MaxCols },
			func(r *api.Ref) { r.Area, r.B.Row = true, api.MaxRows },
			func(r *api.Ref) { r.Area, r.B.Col = true, -1 },
			func(r *api.Ref) { r.Area, r.B.AbsRow = false, true },
		} {
			both, alone := r, api.Ref{}
			spoil(&both)
			spoil(&alone)
			wantCheck(t, both, api.ErrSheet)
			wantCheck(t, alone, api.ErrAddr)
		}
	}
}

// P11.2: references with any field spoiled, held against the model.
func TestCheckDrawn(t *testing.T) {
	d := draws(2)
	ends := []int{math.MinInt, -1, 0, 1, api.MaxCols - 1, api.MaxCols, api.MaxRows - 1, api.MaxRows, math.MaxInt}
	names := []string{"", "a", "x y", "a:b", "'", "\xFF", strings.Repeat("é", 33)}
	seen := map[api.Errno]int{}
	for range 50000 {
		r := d.ref()
		for range d.below(3) {
			n, name := ends[d.below(len(ends))], names[d.below(len(names))]
			switch d.below(8) {
			case 0:
				r.Sheet = name
			case 1:
				r.To = name
			case 2:
				r.Fixed = !r.Fixed
			case 3:
				r.Area = !r.Area
			case 4:
				r.A.Row = n
			case 5:
				r.A.Col = n
			case 6:
				r.B.Row = n
			case 7:
				r.B.Col = n
			}
		}
		want := modelCheck(r)
		wantCheck(t, r, want)
		seen[want]++
	}
	for _, errno := range []api.Errno{api.OK, api.ErrAddr, api.ErrSheet} {
		if seen[errno] < 2000 {
			t.Errorf("%d only %d times", errno, seen[errno])
		}
	}
}
