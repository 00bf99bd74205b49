package shift_test

import (
	"slices"
	"strings"
	"testing"

	"gridiron/api"
	"gridiron/shift"
)

func wantSheets(t *testing.T, sheets []string, x api.Shift, want []string) {
	t.Helper()
	got, errno := shift.Sheets(sheets, x)
	if errno != api.OK || !slices.Equal(got, want) {
		t.Errorf("Sheets(%q, %s): %q, %d, want %q", sheets, told(x), got, errno, want)
	}
}

// P15.1: each kind at the first, a middle and the last place.
func TestSheets(t *testing.T) {
	sheets := strings.Fields("a B c D e")
	for _, x := range []struct {
		shift api.Shift
		want  string
	}{
		{api.Shift{Kind: api.SInsSheet, At: 0, Name: "x"}, "x a B c D e"},
		{api.Shift{Kind: api.SInsSheet, At: 2, Name: "X"}, "a B X c D e"},
		{api.Shift{Kind: api.SInsSheet, At: 4, Name: "É"}, "a B c D É e"},
		{api.Shift{Kind: api.SInsSheet, At: 5, Name: "x"}, "a B c D e x"},
		{api.Shift{Kind: api.SDelSheet, Sheet: "A"}, "B c D e"},
		{api.Shift{Kind: api.SDelSheet, Sheet: "c"}, "a B D e"},
		{api.Shift{Kind: api.SDelSheet, Sheet: "E"}, "a B c D"},
		{api.Shift{Kind: api.SMoveSheet, Sheet: "a", At: 0}, "a B c D e"},
		{api.Shift{Kind: api.SMoveSheet, Sheet: "a", At: 1}, "B a c D e"},
		{api.Shift{Kind: api.SMoveSheet, Sheet: "A", At: 4}, "B c D e a"},
		{api.Shift{Kind: api.SMoveSheet, Sheet: "c", At: 0}, "c a B D e"},
		{api.Shift{Kind: api.SMoveSheet, Sheet: "C", At: 2}, "a B c D e"},
		{api.Shift{Kind: api.SMoveSheet, Sheet: "c", At: 1}, "a c B D e"},
		{api.Shift{Kind: api.SMoveSheet, Sheet: "c", At: 3}, "a B D c e"},
		{api.Shift{Kind: api.SMoveSheet, Sheet: "c", At: 4}, "a B D e c"},
		{api.Shift{Kind: api.SMoveSheet, Sheet: "e", At: 4}, "a B c D e"},
		{api.Shift{Kind: api.SMoveSheet, Sheet: "e", At: 0}, "e a B c D"},
		{api.Shift{Kind: api.SNameSheet, Sheet: "a", Name: "x"}, "x B c D e"},
		{api.Shift{Kind: api.SNameSheet, Sheet: "b", Name: "x"}, "a x c D e"},
		{api.Shift{Kind: api.SNameSheet, Sheet: "E", Name: "x"}, "a B c D x"},
		{api.Shift{Kind: api.SNameSheet, Sheet: "b", Name: "B"}, "a B c D e"},
		{api.Shift{Kind: api.SNameSheet, Sheet: "B", Name: "b"}, "a b c D e"},
	} {
		wantSheets(t, sheets, x.shift, strings.Fields(x.want))
	}
	for _, kind := range lineKinds() {
		wantSheets(t, sheets, api.Shift{Kind: kind, Sheet: "b", At: 3, N: 2}, sheets)
	}
	wantSheets(t, nil, api.Shift{Kind: api.SInsSheet, Name: "x"}, []string{"x"})
	wantSheets(t, []string{"a"}, api.Shift{Kind: api.SMoveSheet, Sheet: "a"}, []string{"a"})
	wantSheets(t, []string{"a"}, api.Shift{Kind: api.SNameSheet, Sheet: "A", Name: "A"}, []string{"A"})
}

// P15.1: each place of few and of many sheets, held against the model.
func TestSheetsEach(t *testing.T) {
	for _, n := range []int{1, 2, 3, 5, api.MaxSheets - 1, api.MaxSheets} {
		l := many(n)
		for at := range n {
			for _, sheet := range l {
				x := api.Shift{Kind: api.SMoveSheet, Sheet: strings.ToUpper(sheet), At: at}
				wantSheets(t, l, x, modelOf(l, x).names)
				if got, _ := shift.Sheets(l, x); got[at] != sheet {
					t.Errorf("Sheets(%s): %q has not the number %d", told(x), got, at)
				}
			}
			x := api.Shift{Kind: api.SNameSheet, Sheet: l[at], Name: "new"}
			wantSheets(t, l, x, slices.Concat(l[:at], []string{"new"}, l[at+1:]))
			if n > 1 {
				wantSheets(t, l, api.Shift{Kind: api.SDelSheet, Sheet: l[at]}, slices.Concat(l[:at], l[at+1:]))
			}
		}
		for at := range n + 1 {
			if n < api.MaxSheets {
				wantSheets(t, l, api.Shift{Kind: api.SInsSheet, Name: "new", At: at}, slices.Concat(l[:at], []string{"new"}, l[at:]))
			}
		}
	}
}
