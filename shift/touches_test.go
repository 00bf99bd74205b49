package shift_test

import (
	"testing"

	"gridiron/api"
	"gridiron/shift"
)

// wantTouches tells which references, as texts, are touched, and which are not.
func wantTouches(t *testing.T, sheets []string, x api.Shift, own string, touched, not []string) {
	t.Helper()
	for _, s := range touched {
		if !shift.Touches(sheets, x, own, ref(s)) {
			t.Errorf("Touches(%q, %s, %q, %s): false", sheets, told(x), own, s)
		}
	}
	for _, s := range not {
		if shift.Touches(sheets, x, own, ref(s)) {
			t.Errorf("Touches(%q, %s, %q, %s): true", sheets, told(x), own, s)
		}
	}
}

// P15.4: rows and columns that come, at each edge of At and of the sheet.
func TestTouchesCome(t *testing.T) {
	sheets := []string{"a", "b", "c", "d"}
	x := api.Shift{Kind: api.SInsRows, Sheet: "b", At: 3, N: 2}
	wantTouches(t, sheets, x, "B",
		[]string{".A3:.A4", ".A4:.A3", ".A1:.A9", "b.A1:.A4", "$B.A3:.C4", ".A1048575", ".A1048576", ".A1048574:.A1048575", ".A4:.A1048576", ".A1:.A1048576", "b.A1048576"},
		[]string{".A1:.A3", ".A3", ".A4", ".A4:.A9", ".A1048574", ".A1048574:.A1048573", "a.A3:.A4", "zz.A3:.A4", "a.A1048576"})
	wantTouches(t, sheets, x, "a", []string{"b.A3:.A4"}, []string{".A3:.A4", ".A1048576"})
	cols := api.Shift{Kind: api.SInsCols, Sheet: "B", At: 3, N: 2}
	wantTouches(t, sheets, cols, "b",
		[]string{".C1:.D1", ".D9:.C1", ".AMI1", ".AMJ1", ".AMH1:.AMI1", ".D1:.AMJ1"},
		[]string{".A1:.C9", ".C1", ".D1", ".D1:.I1", ".AMH1", ".A1048576", "a.C1:.D1", ".A1048576:.A1"})
	// of more sheets: whatever comes at their rows or ahead of them
	for _, x := range []api.Shift{x, {Kind: api.SDelRows, Sheet: "B", At: 3, N: 2}} {
		wantTouches(t, sheets, x, "zz",
			[]string{"a.A4:b.A4", "b.A1:c.A4", "a.A9:c.A5", "c.A4:a.A1", "b.A4:b.A4", "B.A1048576:b.A1", "a.A1:d.A9"},
			[]string{"a.A1:b.A3", "a.A3:c.A1", "c.A9:d.A9", "a.A1:a.A9", "d.A9:c.A9", "zz.A1:b.A9", "b.A1:zz.A9", "zz.A9:zz.A9"})
	}
	for _, x := range []api.Shift{cols, {Kind: api.SDelCols, Sheet: "B", At: 3, N: 2}} {
		wantTouches(t, sheets, x, "b", []string{"a.D1:b.A1", "c.A1:a.D1", "b.I1:c.E9"}, []string{"a.A9:b.C9", "c.D1:d.I1", "zz.D1:b.D1"})
	}
}

// P15.4: rows and columns that go, at each edge of At and N.
func TestTouchesGo(t *testing.T) {
	sheets := []string{"a", "b", "c"}
	wantTouches(t, sheets, api.Shift{Kind: api.SDelRows, Sheet: "b", At: 3, N: 2}, "b",
		[]string{".A4", ".A5", ".A4:.A5", ".A1:.A4", ".A5:.A9", ".A9:.A1", "b.A5", "$B.A4:.B4"},
		[]string{".A3", ".A6", ".A1:.A3", ".A6:.A9", ".A1048576", "a.A4", "zz.A4", ".D1"})
	wantTouches(t, sheets, api.Shift{Kind: api.SDelCols, Sheet: "b", At: 3, N: 2}, "B",
		[]string{".D1", ".E1", ".D1:.E9", ".A1:.D1", ".I1:.E9"},
		[]string{".C1", ".F1", ".A1:.C9", ".F1:.I9", ".AMJ1", "a.D1", ".A4"})
	wantTouches(t, sheets, api.Shift{Kind: api.SDelRows, Sheet: "b", At: 3, N: 2}, "c", []string{"b.A4"}, []string{".A4"})
}

// P15.4: sheets that come, go, move and are named.
func TestTouchesSheets(t *testing.T) {
	sheets := []string{"a", "b", "c", "d"}
	wantTouches(t, sheets, api.Shift{Kind: api.SInsSheet, At: 1, Name: "new"}, "a",
		[]string{"a.A1:b.A1", "c.A1:d.A1", "a.A1:a.A1", "zz.A1:a.A1", "new.A1", "NEW.A1:.B2", "$new.A1"},
		[]string{".A1", ".A1:.B2", "a.A1", "d.A1:.B2", "zz.A1"})
	wantTouches(t, sheets, api.Shift{Kind: api.SDelSheet, Sheet: "B"}, "b",
		[]string{"b.A1", "$B.A1:.B2", "a.A1:b.A1", "b.A1:a.A1", "B.A1:b.A1", "a.A1:c.A1", "d.A1:a.A1", "b.A1:zz.A1", "zz.A1:b.A1"},
		[]string{".A1", ".A1:.B2", "a.A1", "c.A1", "c.A1:d.A1", "a.A1:a.A1", "zz.A1", "a.A1:zz.A1", "zz.A1:d.A1"})
	wantTouches(t, sheets, api.Shift{Kind: api.SMoveSheet, Sheet: "b", At: 1, Name: "c"}, "b",
		[]string{"a.A1:b.A1", "c.A1:d.A1", "zz.A1:zz.A1"},
		[]string{".A1", "b.A1", "c.A1", ".A1:.B2", "a.A1:.B2"})
	wantTouches(t, sheets, api.Shift{Kind: api.SNameSheet, Sheet: "b", Name: "new"}, "new",
		[]string{"new.A1", "NEW.A1:.B2", "a.A1:New.A1", "new.A1:a.A1", "$new.A1"},
		[]string{".A1", ".A1:.B2", "b.A1", "a.A1:b.A1", "b.A1:c.A1", "zz.A1"})
	wantTouches(t, sheets, api.Shift{Kind: api.SNameSheet, Sheet: "b", Name: "B"}, "a", nil, []string{"b.A1", "B.A1:.B2", "a.A1:b.A1", ".A1"})
	wantTouches(t, sheets, api.Shift{Kind: api.SNameSheet, Sheet: "b", Name: "b"}, "a", nil, []string{"b.A1", "B.A1:.B2", "a.A1:b.A1", ".A1"})
}
