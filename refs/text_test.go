package refs_test

import (
	"strings"
	"testing"

	"gridiron/api"
	"gridiron/refs"
)

// wantText holds Text against a text, and Parse of that against the reference.
func wantText(t *testing.T, r api.Ref, want string) {
	t.Helper()
	if got, errno := refs.Text(r); got != want || errno != api.OK {
		t.Errorf("Text(%s): %q, %d, want %q", told(r), got, errno, want)
	}
	if model, _ := modelText(r); model != want {
		t.Errorf("the model of Text(%s): %q, want %q", told(r), model, want)
	}
	if got, at, errno := refs.Parse(want); got != r || at != 0 || errno != api.OK {
		t.Errorf("Parse(%s): %s, %d, %d, want %s", short(want), told(got), at, errno, told(r))
	}
}

// each are references of each combination of Fixed, Sheet, To, Area and the four $.
func each() []api.Ref {
	var out []api.Ref
	for signs := range 16 {
		a := api.Corner{Row: 0, Col: 27, AbsCol: signs&1 != 0, AbsRow: signs&2 != 0}
		b := api.Corner{Row: 11, Col: 1, AbsCol: signs&4 != 0, AbsRow: signs&8 != 0}
		if signs < 4 {
			out = append(out, api.Ref{A: a}, api.Ref{Sheet: "S1", A: a}, api.Ref{Sheet: "x y", A: a}, api.Ref{Sheet: "S1", Fixed: true, A: a}, api.Ref{Sheet: "x y", Fixed: true, A: a})
		}
		out = append(out, api.Ref{Area: true, A: a, B: b})
		for _, sheet := range []string{"S1", "x y"} {
			for _, to := range []string{"", "_t", "1"} {
				out = append(out, api.Ref{Sheet: sheet, To: to, Area: true, A: a, B: b}, api.Ref{Sheet: sheet, To: to, Fixed: true, Area: true, A: a, B: b})
			}
		}
	}
	return out
}

// texts are the Texts of each.
func texts() []string {
	var out []string
	for _, r := range each() {
		text, _ := modelText(r)
		out = append(out, text)
	}
	return out
}

// P11.3: the chapter's examples, and the parts of a text one by one.
func TestText(t *testing.T) {
	a1 := api.Corner{}
	b2 := api.Corner{Row: 1, Col: 1}
	last := api.Corner{Row: api.MaxRows - 1, Col: api.MaxCols - 1}
	wantText(t, api.Ref{A: b2}, ".B2")
	wantText(t, api.Ref{Sheet: "x y", Fixed: true, Area: true, A: api.Corner{AbsRow: true, AbsCol: true}, B: b2}, "$'x y'.$A$1:.B2")
	wantText(t, api.Ref{Sheet: "Sheet1", To: "Sheet3", Area: true, A: a1, B: b2}, "Sheet1.A1:Sheet3.B2")
	wantText(t, api.Ref{}, ".A1")
	wantText(t, api.Ref{Area: true}, ".A1:.A1")
	wantText(t, api.Ref{A: api.Corner{AbsRow: true}}, ".A$1")
	wantText(t, api.Ref{A: api.Corner{AbsCol: true}}, ".$A1")
	wantText(t, api.Ref{A: last}, ".AMJ1048576")
	wantText(t, api.Ref{Area: true, A: last, B: a1}, ".AMJ1048576:.A1")
	wantText(t, api.Ref{Area: true, A: b2, B: api.Corner{AbsRow: true, AbsCol: true}}, ".B2:.$A$1")
	wantText(t, api.Ref{Sheet: "a", Fixed: true, A: b2}, "$a.B2")
	wantText(t, api.Ref{Sheet: "A1", A: a1}, "A1.A1")
	wantText(t, api.Ref{Sheet: ".A1", A: a1}, "'.A1'.A1")
	wantText(t, api.Ref{Sheet: "$", To: ".", Fixed: true, Area: true}, "$'$'.A1:'.'.A1")
	wantText(t, api.Ref{Sheet: "é", To: "a", Area: true}, "'é'.A1:a.A1")
	long := strings.Repeat("b", api.MaxName)
	digits := strings.Repeat("1", api.MaxName)
	wantText(t, api.Ref{Sheet: long, To: digits, Area: true}, long+".A1:'"+digits+"'.A1")
}

// P11.3, P11.5: each combination of the parts.
func TestTextEach(t *testing.T) {
	seen := map[string]bool{}
	for _, r := range each() {
		want, errno := modelText(r)
		if errno != api.OK || seen[want] {
			t.Errorf("%s: %q, %d, twice: %v", told(r), want, errno, seen[want])
		}
		seen[want] = true
		wantText(t, r, want)
	}
	if len(seen) != 4*5+16*13 {
		t.Errorf("%d texts", len(seen))
	}
}

// P11.3, P11.5: every column, and rows of each number of digits.
func TestTextEdges(t *testing.T) {
	for n := range api.MaxCols {
		letters, _ := refs.Column(n)
		wantText(t, api.Ref{A: api.Corner{Col: n}}, "."+letters+"1")
		wantText(t, api.Ref{Sheet: "a", Area: true, B: api.Corner{Col: n, AbsRow: true}}, "a.A1:."+letters+"$1")
	}
	for row, text := range map[int]string{0: "1", 8: "9", 9: "10", 98: "99", 99: "100", 998: "999", 999: "1000", 9999: "10000", 99999: "100000", 999998: "999999", 999999: "1000000", 1048574: "1048575", 1048575: "1048576"} {
		wantText(t, api.Ref{A: api.Corner{Row: row}}, ".A"+text)
		wantText(t, api.Ref{Area: true, B: api.Corner{Row: row, AbsRow: true}}, ".A1:.A$"+text)
	}
}
