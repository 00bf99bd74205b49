package shift_test

import (
	"strings"
	"testing"

	"gridiron/api"
	"gridiron/refs"
	"gridiron/shift"
)

// ref is the reference that a text says.
func ref(s string) api.Ref {
	r, at, errno := refs.Parse(s)
	if errno != api.OK {
		panic(s + ": no reference, at " + told(at))
	}
	return r
}

func wantRef(t *testing.T, sheets []string, x api.Shift, own string, r, want api.Ref, stays bool) {
	t.Helper()
	if got, is := shift.Ref(sheets, x, own, r); got != want || is != stays {
		t.Errorf("Ref(%q, %s, %q, %s): %s, %v, want %s, %v", sheets, told(x), own, told(r), told(got), is, told(want), stays)
	}
}

// wantRefs tells what becomes of references, as texts: empty, if they go.
func wantRefs(t *testing.T, sheets []string, x api.Shift, own string, all map[string]string) {
	t.Helper()
	for s, want := range all {
		if want == "" {
			wantRef(t, sheets, x, own, ref(s), api.Ref{}, false)
		} else {
			wantRef(t, sheets, x, own, ref(s), ref(want), true)
		}
	}
}

// P15.3: the chapter's rows, with $ and with corners in each order.
func TestRefRows(t *testing.T) {
	sheets := []string{"a", "b", "c"}
	come := api.Shift{Kind: api.SInsRows, Sheet: "A", At: 1, N: 2}
	wantRefs(t, sheets, come, "a", map[string]string{
		".A1:.A3": ".A1:.A5", ".A2": ".A4", ".A1": ".A1", ".$B$2": ".$B$4", ".A$1": ".A$1",
		".A3:.A1": ".A5:.A1", ".$C$3:.A1": ".$C$5:.A1", ".C1:.A3": ".C1:.A5", ".A2:.C2": ".A4:.C4", ".A1:.C1": ".A1:.C1",
		".A2:.A1048576": ".A4:.A1048576", ".A1:.A1048576": ".A1:.A1048576", ".A$1048576:.$A1": ".A$1048576:.$A1",
		".A1048574": ".A1048576", ".A1048575": "", ".A1048576": "", ".A1048574:.A1048575": ".A1048576:.A1048576", ".A1048575:.B1048576": "", ".B1048576:.A1048575": "",
		"a.A2": "a.A4", "$A.A2:.B2": "$A.A4:.B4", "b.A2": "b.A2", "zz.A2": "zz.A2", "a.A2:a.A3": "a.A2:a.A3", "a.A2:c.A1048576": "a.A2:c.A1048576",
	})
	wantRefs(t, sheets, come, "b", map[string]string{".A2": ".A2", "a.A2": "a.A4", "b.A2": "b.A2", "A.A1048576": ""})
	wantRefs(t, sheets, come, "zz", map[string]string{".A2": ".A2", "a.A2": "a.A4"})
	wantRefs(t, sheets, come, "", map[string]string{".A2": ".A2", "a.A2": "a.A4"})
	gone := api.Shift{Kind: api.SDelRows, Sheet: "a", At: 1, N: 2}
	wantRefs(t, sheets, gone, "A", map[string]string{
		".A1:.A3": ".A1:.A1", ".A2": "", ".A3": "", ".A2:.A3": "", ".A3:.B2": "", ".A3:.A9": ".A2:.A7", ".A1": ".A1", ".A4": ".A2", ".$A$4": ".$A$2",
		".A1:.A2": ".A1:.A1", ".A2:.A4": ".A2:.A2", ".A3:.A4": ".A2:.A2", ".A4:.A3": ".A2:.A2", ".B$4:.A2": ".B$2:.A2", ".A1:.A4": ".A1:.A2", ".A9:.$A$2": ".A7:.$A$2",
		".A1:.C1": ".A1:.C1", ".A4:.C5": ".A2:.C3", ".A1048576": ".A1048574", ".A1048576:.B1": ".A1048574:.B1",
		"a.A9": "a.A7", "$A.A2": "", "b.A2": "b.A2", "zz.A2": "zz.A2", "a.A2:a.A3": "a.A2:a.A3", "b.A2:a.A9": "b.A2:a.A9",
	})
	wantRefs(t, sheets, gone, "c", map[string]string{".A2": ".A2", "a.A2": "", "c.A2": "c.A2"})
	wantRefs(t, sheets, api.Shift{Kind: api.SDelRows, Sheet: "a", N: api.MaxRows}, "a", map[string]string{".A1": "", ".A1:.A1048576": "", "b.A1": "b.A1"})
	wantRefs(t, sheets, api.Shift{Kind: api.SDelRows, Sheet: "a", N: 1}, "a", map[string]string{".A1": "", ".A1:.A2": ".A1:.A1", ".A2:.B1": ".A1:.B1", ".A2": ".A1"})
	// what comes at the end reaches to the end, even if nothing else of the area remains there
	wantRefs(t, sheets, api.Shift{Kind: api.SInsRows, Sheet: "a", At: api.MaxRows - 1, N: 1}, "a", map[string]string{".A1048575:.A1048576": ".A1048575:.A1048576", ".A1048576": "", ".A1048576:.B1048576": "", ".A1048575": ".A1048575"})
}

// P15.3: columns likewise.
func TestRefCols(t *testing.T) {
	sheets := []string{"a", "b", "c"}
	come := api.Shift{Kind: api.SInsCols, Sheet: "a", At: 1, N: 2}
	wantRefs(t, sheets, come, "a", map[string]string{
		".A1:.C1": ".A1:.E1", ".B1": ".D1", ".A2": ".A2", ".$B$1": ".$D$1", ".C1:.$A9": ".E1:.$A9", ".C9:.$A1": ".E9:.$A1", ".B1:.B9": ".D1:.D9",
		".B1:.AMJ1": ".D1:.AMJ1", ".AMH1": ".AMJ1", ".AMI1": "", ".AMJ1": "", ".AMI1:.AMJ2": "", ".AMH1:.AMI2": ".AMJ1:.AMJ2", ".$AMJ1:.A$3": ".$AMJ1:.A$3",
		"A.B1": "A.D1", "b.B1": "b.B1", "a.B1:a.C1": "a.B1:a.C1",
	})
	gone := api.Shift{Kind: api.SDelCols, Sheet: "A", At: 1, N: 2}
	wantRefs(t, sheets, gone, "a", map[string]string{
		".A1:.C1": ".A1:.A1", ".B1": "", ".C1": "", ".B1:.C9": "", ".C9:.I1": ".B9:.G1", ".I9:.C1": ".G9:.B1", ".A9": ".A9", ".$D$1": ".$B$1", ".$I1:.A1": ".$G1:.A1",
		".AMJ1": ".AMH1", "a.D1": "a.B1", "$A.C1": "", "b.C1": "b.C1", "zz.C1": "zz.C1", "a.C1:b.C1": "a.C1:b.C1",
	})
	wantRefs(t, sheets, gone, "b", map[string]string{".B1": ".B1", "a.B1": "", "a.D1": "a.B1"})
	wantRefs(t, sheets, api.Shift{Kind: api.SInsCols, Sheet: "a", At: api.MaxCols - 1, N: 1}, "a", map[string]string{".AMI1:.AMJ1": ".AMI1:.AMJ1", ".AMJ1": "", ".AMJ1:.AMJ9": ""})
}

// lines are rows or columns near each edge of a shift.
func lines(x api.Shift, limit int) []int {
	seen := map[int]bool{}
	var out []int
	for _, near := range []int{0, x.At, x.At + x.N, limit - x.N, limit} {
		for line := near - 2; line <= near+1; line++ {
			if line >= 0 && line < limit && !seen[line] {
				seen[line] = true
				out = append(out, line)
			}
		}
	}
	return out
}

// P15.3, P15.4: areas ahead of, across, within, around and behind what comes or goes, with their corners in each order and each $, and cells; held against the model.
func TestRefLinesEach(t *testing.T) {
	sheets := []string{"a", "b", "c"}
	for _, kind := range lineKinds() {
		limit, _ := limitOf(kind)
		for _, at := range []int{0, 1, 4, limit - 4, limit - 1} {
			for _, n := range []int{1, 2, 5, limit - at - 1, limit - at} {
				x := api.Shift{Kind: kind, Sheet: "B", At: at, N: n}
				if shift.Check(sheets, x) != api.OK {
					continue
				}
				m := modelOf(sheets, x)
				for i, first := range lines(x, limit) {
					for j, second := range lines(x, limit) {
						checkLines(t, m, first, second, i+j)
					}
				}
			}
		}
	}
}

// checkLines looks at references with two rows or columns, with some of the $ and names.
func checkLines(t *testing.T, m *model, first, second, round int) {
	t.Helper()
	for _, others := range [][2]int{{3, 3}, {2, 9}, {9, 2}} {
		for sign := range 4 {
			sign = (sign*5 + round) % 16
			r := api.Ref{Area: true}
			r.A = api.Corner{Row: first, Col: others[0], AbsRow: sign&1 > 0, AbsCol: sign&2 > 0}
			r.B = api.Corner{Row: second, Col: others[1], AbsRow: sign&4 > 0, AbsCol: sign&8 > 0}
			if m.across() {
				r.A.Row, r.A.Col, r.B.Row, r.B.Col = r.A.Col, r.A.Row, r.B.Col, r.B.Row
			}
			for own, sheet := range map[string]string{"b": "", "B": "", "a": "b", "c": "B", "zz": "b"} {
				r.Sheet, r.Fixed = sheet, sheet != "" && round%2 > 0
				checkRef(t, m, own, r)
				checkRef(t, m, own, api.Ref{Sheet: r.Sheet, Fixed: r.Fixed, A: r.A})
			}
			for own, sheet := range map[string]string{"b": "a", "a": "", "B": "zz", "zz": "C"} {
				r.Sheet, r.Fixed = sheet, false
				if got, stays := shift.Ref(m.sheets, m.x, own, r); got != r || !stays {
					t.Errorf("Ref(%s, %s) of another sheet: %s, %v", told(m.x), told(r), told(got), stays)
				}
				checkRef(t, m, own, r)
			}
		}
	}
}

// checkRef holds Ref and Touches against the model.
func checkRef(t *testing.T, m *model, own string, r api.Ref) {
	t.Helper()
	want, stays := m.ref(own, r)
	wantRef(t, m.sheets, m.x, own, r, want, stays)
	if touched := m.touches(own, r); shift.Touches(m.sheets, m.x, own, r) != touched {
		t.Errorf("Touches(%q, %s, %q, %s): not %v", m.sheets, told(m.x), own, told(r), touched)
	}
}

// P15.3: a sheet goes.
func TestRefDelSheet(t *testing.T) {
	sheets := strings.Fields("a B c D e")
	x := api.Shift{Kind: api.SDelSheet, Sheet: "C"}
	for _, own := range []string{"a", "c", "C", "e", "zz", ""} {
		wantRefs(t, sheets, x, own, map[string]string{
			".A1": ".A1", ".A1:.B2": ".A1:.B2", "b.A1": "b.A1", "$d.A1:.B2": "$d.A1:.B2", "zz.A1": "zz.A1",
			"c.A1": "", "C.A1": "", "$c.$A$1:.B2": "", "c.A1:c.B2": "", "c.A1:C.B2": "", "$C.A1:c.B2": "",
			"a.A1:c.B2": "a.A1:B.B2", "b.A1:C.B2": "b.A1:B.B2", "c.A1:a.B2": "B.A1:a.B2", "c.A1:b.B2": "B.A1:b.B2",
			"c.A1:e.B2": "D.A1:e.B2", "$c.$B2:d.A$1": "$D.$B2:d.A$1", "e.A1:c.B2": "e.A1:D.B2", "E.A1:C.B2": "E.A1:D.B2",
			"a.A1:e.B2": "a.A1:e.B2", "e.A1:a.B2": "e.A1:a.B2", "a.A1:b.B2": "a.A1:b.B2", "d.A1:d.B2": "d.A1:d.B2",
			"c.A1:zz.B2": "", "zz.A1:c.B2": "", "a.A1:zz.B2": "a.A1:zz.B2", "zz.A1:yy.B2": "zz.A1:yy.B2",
		})
	}
	wantRefs(t, sheets, api.Shift{Kind: api.SDelSheet, Sheet: "a"}, "a", map[string]string{"a.A1:b.B1": "B.A1:b.B1", "a.A1:e.B1": "B.A1:e.B1", "e.A1:a.B1": "e.A1:B.B1", "a.A1": "", "b.A1": "b.A1"})
	wantRefs(t, sheets, api.Shift{Kind: api.SDelSheet, Sheet: "e"}, "a", map[string]string{"a.A1:e.B1": "a.A1:D.B1", "e.A1:d.B1": "D.A1:d.B1", "e.A1:a.B1": "D.A1:a.B1", "e.A1": "", "d.A1": "d.A1"})
	wantRefs(t, []string{"a", "b"}, api.Shift{Kind: api.SDelSheet, Sheet: "b"}, "a", map[string]string{"a.A1:b.A1": "a.A1:a.A1", "b.A1:a.A1": "a.A1:a.A1", "$b.A1": ""})
	// rows and columns count for nothing, even the last ones
	wantRefs(t, []string{"x y", "b"}, api.Shift{Kind: api.SDelSheet, Sheet: "b", At: -1, N: -1}, "a", map[string]string{"b.AMJ1048576:'X Y'.$A$1": "'x y'.AMJ1048576:'X Y'.$A$1"})
}

// P15.3: a sheet is named anew.
func TestRefNameSheet(t *testing.T) {
	sheets := []string{"a", "B", "c"}
	x := api.Shift{Kind: api.SNameSheet, Sheet: "b", Name: "x y"}
	for _, own := range []string{"a", "b", "x y", "zz", ""} {
		wantRefs(t, sheets, x, own, map[string]string{
			".A1": ".A1", ".A1:.B2": ".A1:.B2", "b.A1": "'x y'.A1", "$B.A1:.B$2": "$'x y'.A1:.B$2", "a.A1": "a.A1", "zz.A1": "zz.A1", "'x y'.A1": "'x y'.A1", "'X Y'.A1": "'X Y'.A1",
			"a.A1:b.B2": "a.A1:'x y'.B2", "B.A1:c.B2": "'x y'.A1:c.B2", "$b.$A1:B.B2": "$'x y'.$A1:'x y'.B2", "a.A1:c.B2": "a.A1:c.B2", "zz.A1:b.B2": "zz.A1:'x y'.B2",
		})
	}
	wantRefs(t, sheets, api.Shift{Kind: api.SNameSheet, Sheet: "B", Name: "b"}, "a", map[string]string{"B.A1": "b.A1", "b.A1": "b.A1", "B.A1:B.A1": "b.A1:b.A1"})
	wantRefs(t, sheets, api.Shift{Kind: api.SNameSheet, Sheet: "b", Name: "B"}, "a", map[string]string{"B.A1": "B.A1", "b.A1": "B.A1", "a.A1:b.A1": "a.A1:B.A1"})
}

// P15.3: nothing changes, if a sheet comes or moves.
func TestRefSheetsThatComeAndMove(t *testing.T) {
	sheets := []string{"a", "b", "c"}
	for at := range 4 {
		come := api.Shift{Kind: api.SInsSheet, At: at, Name: "new", Sheet: "b", N: 1}
		move := api.Shift{Kind: api.SMoveSheet, At: at, Name: "new", Sheet: "b", N: 1}
		for _, s := range []string{".A1", ".AMJ1048576", "a.A1", "$B.A1:.B2", "new.A1", "NEW.A1", "a.A1:b.B2", "b.B2:c.$A1", "new.A1:b.A1", "zz.A1", "b.A1:b.A1"} {
			for _, own := range []string{"a", "b", "new", "zz"} {
				wantRef(t, sheets, come, own, ref(s), ref(s), true)
				wantRef(t, sheets, move, own, ref(s), ref(s), true)
			}
		}
	}
}

// bad are references that refs.Check refuses.
func bad() []api.Ref {
	return []api.Ref{
		{A: api.Corner{Row: -1}}, {A: api.Corner{Row: api.MaxRows}}, {A: api.Corner{Col: -1}}, {A: api.Corner{Col: api.MaxCols}},
		{Area: true, B: api.Corner{Row: api.MaxRows}}, {Area: true, A: api.Corner{Row: 9}, B: api.Corner{Row: -1}}, {Area: true, B: api.Corner{Col: api.MaxCols}},
		{A: api.Corner{Row: 2, Col: 2}, B: api.Corner{Row: 1}}, {A: api.Corner{Row: 2, Col: 2}, B: api.Corner{AbsCol: true}}, {Sheet: "a", B: api.Corner{Row: 1}},
		{Sheet: "a", To: "b", A: api.Corner{Row: 2}}, {To: "a", Area: true}, {To: "b"}, {Fixed: true, A: api.Corner{Row: 2, Col: 2}}, {Fixed: true, Area: true},
		{Sheet: "a:b"}, {Sheet: "a", To: "a:b", Area: true}, {Sheet: "a:b", To: "a", Area: true}, {Sheet: "\xff"}, {Sheet: strings.Repeat("a", api.MaxName+1)},
		{Sheet: "a", To: "'", Area: true}, {A: api.Corner{Row: extremes()[0], Col: extremes()[5]}}, {Sheet: "a", Area: true, A: api.Corner{Row: extremes()[5]}, B: api.Corner{Row: extremes()[0]}},
	}
}

// P15.3, P15.4: what refs.Check refuses is left as it is, by each kind of shift.
func TestRefRefused(t *testing.T) {
	for _, sheets := range [][]string{{"a", "b", "c"}, {"a", "b", "a:b", "'", "\xff"}} {
		for kind := api.SInsRows; kind <= api.SNameSheet; kind++ {
			for _, sheet := range sheets {
				x := good(kind)
				if x.Sheet != "" {
					x.Sheet = sheet
				}
				for _, r := range bad() {
					for _, own := range append(sheets, "zz", "") {
						wantRef(t, sheets, x, own, r, r, true)
						if shift.Touches(sheets, x, own, r) {
							t.Errorf("Touches(%s, %s)", told(x), told(r))
						}
					}
				}
			}
		}
	}
}

// P15.3, P15.4: every two sheets and one more, for each kind of shift of sheets, held against the model.
func TestRefSheetsEach(t *testing.T) {
	sheets := []string{"a", "B", "c", "x y", "É"}
	var all []api.Shift
	for _, sheet := range sheets {
		for at := range 6 {
			all = append(all, api.Shift{Kind: api.SMoveSheet, Sheet: sheet, At: at}, api.Shift{Kind: api.SInsSheet, At: at, Name: []string{"n", "N", "zz"}[at%3]})
		}
		all = append(all, api.Shift{Kind: api.SDelSheet, Sheet: strings.ToUpper(sheet)})
		for _, name := range append(sheets, "n", "ZZ", "b", "X y") {
			all = append(all, api.Shift{Kind: api.SNameSheet, Sheet: strings.ToLower(sheet), Name: name})
		}
		for _, kind := range lineKinds() {
			all = append(all, api.Shift{Kind: kind, Sheet: sheet, At: 3, N: 2})
		}
	}
	names := append(sheets, "A", "b", "X Y", "é", "zz", "N", "n", "")
	for _, x := range all {
		if shift.Check(sheets, x) != api.OK {
			continue
		}
		m := modelOf(sheets, x)
		for _, sheet := range names {
			for _, to := range names {
				if sheet == "" && to != "" {
					continue
				}
				for _, most := range []int{0, 2, 3, 4, 5, 9} {
					r := api.Ref{Sheet: sheet, To: to, Area: true, A: api.Corner{Row: most, AbsCol: true}, B: api.Corner{Col: most, AbsRow: true}}
					checkRef(t, m, "c", r)
					r.Area, r.B, r.To, r.Fixed = false, api.Corner{}, "", sheet != ""
					checkRef(t, m, "zz", r)
				}
			}
		}
	}
}
