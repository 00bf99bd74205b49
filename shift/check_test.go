package shift_test

import (
	"math"
	"strings"
	"testing"

	"gridiron/api"
	"gridiron/shift"
)

// wantCheck holds Check against the document's answer, and the other calls against it.
func wantCheck(t *testing.T, sheets []string, x api.Shift, want api.Errno) {
	t.Helper()
	if got := shift.Check(sheets, x); got != want {
		t.Errorf("Check(%q, %s): %d, want %d", sheets, told(x), got, want)
	}
	if model := modelCheck(sheets, x); model != want {
		t.Errorf("the model of Check(%q, %s): %d, want %d", sheets, told(x), model, want)
	}
	names, errno := shift.Sheets(sheets, x)
	if errno != want || want != api.OK && names != nil {
		t.Errorf("Sheets(%q, %s): %q, %d, want %d", sheets, told(x), names, errno, want)
	}
	if want == api.OK {
		return
	}
	if a, is := shift.Cell(sheets, x, api.Addr{Row: 1, Col: 1}); is || a != (api.Addr{}) {
		t.Errorf("Cell of %s, which may not be: %s, %v", told(x), told(a), is)
	}
	for _, s := range []string{".B2", "a.B2", "$b.A1:.C3", "b.A1:c.C3", "A.A1:B.C3"} {
		r := ref(s)
		if got, stays := shift.Ref(sheets, x, "a", r); got != r || !stays {
			t.Errorf("Ref(%s) of %s, which may not be: %s, %v", s, told(x), told(got), stays)
		}
		if shift.Touches(sheets, x, "a", r) {
			t.Errorf("Touches(%s) of %s, which may not be", s, told(x))
		}
	}
}

// extremes are numbers at the ends of their type.
func extremes() []int {
	return []int{math.MinInt, math.MinInt + 1, math.MinInt32, math.MaxInt32, math.MaxInt - 1, math.MaxInt}
}

// P15.1: kinds that are none, whatever else may be wrong.
func TestCheckKind(t *testing.T) {
	for _, kind := range append(extremes(), 0, -1, 9, 10, 1<<32+1, -8) {
		wantCheck(t, []string{"a", "b"}, api.Shift{Kind: kind, Sheet: "a", N: 1, Name: "c"}, api.ErrShift)
		wantCheck(t, []string{"a", "b"}, api.Shift{Kind: kind, Sheet: "zz", N: 1, Name: "c"}, api.ErrShift)
		wantCheck(t, []string{"a"}, api.Shift{Kind: kind, Sheet: "a", Name: "a"}, api.ErrShift)
		wantCheck(t, many(api.MaxSheets), api.Shift{Kind: kind, Sheet: "s1", Name: "a:b"}, api.ErrShift)
		wantCheck(t, nil, api.Shift{Kind: kind}, api.ErrShift)
	}
}

// P15.1: At and N at each edge, of rows and of columns.
func TestCheckLines(t *testing.T) {
	sheets := []string{"a", "b"}
	for _, kind := range lineKinds() {
		limit, _ := limitOf(kind)
		for _, fits := range [][2]int{{0, 1}, {0, limit}, {0, limit - 1}, {1, limit - 1}, {limit - 1, 1}, {limit - 2, 2}, {limit - 2, 1}, {5, 7}} {
			wantCheck(t, sheets, api.Shift{Kind: kind, Sheet: "B", At: fits[0], N: fits[1]}, api.OK)
		}
		for _, not := range [][2]int{{0, 0}, {0, -1}, {-1, 1}, {-1, 2}, {-1, limit}, {0, limit + 1}, {1, limit}, {limit - 1, 2}, {limit, 1}, {limit, 0}, {limit + 1, -1}, {math.MaxInt, 1}, {1, math.MaxInt}, {math.MaxInt, math.MaxInt}, {math.MinInt, math.MaxInt}, {math.MaxInt, math.MinInt}, {math.MinInt, 1}, {0, math.MinInt}, {math.MinInt, math.MinInt}, {limit - 1, math.MaxInt}} {
			wantCheck(t, sheets, api.Shift{Kind: kind, Sheet: "B", At: not[0], N: not[1]}, api.ErrShift)
		}
		all := append(extremes(), -1, 0, 1, 2, 1022, 1023, 1024, 1025, limit/2, limit-2, limit-1, limit, limit+1)
		for _, at := range all {
			for _, n := range all {
				x := api.Shift{Kind: kind, Sheet: "b", At: at, N: n}
				wantCheck(t, sheets, x, modelCheck(sheets, x))
				x.Sheet = "c"
				wantCheck(t, sheets, x, api.ErrNone)
			}
		}
	}
}

// P15.1: At at each edge, of sheets that come and move.
func TestCheckPlaces(t *testing.T) {
	for n := 1; n < api.MaxSheets; n++ {
		for _, at := range append(extremes(), -2, -1, n+1, n+2) {
			wantCheck(t, many(n), api.Shift{Kind: api.SInsSheet, At: at, Name: "b"}, api.ErrShift)
			wantCheck(t, many(n), api.Shift{Kind: api.SMoveSheet, At: at, Sheet: "S0"}, api.ErrShift)
		}
		for at := range n {
			wantCheck(t, many(n), api.Shift{Kind: api.SInsSheet, At: at, Name: "b"}, api.OK)
			wantCheck(t, many(n), api.Shift{Kind: api.SMoveSheet, At: at, Sheet: "S0"}, api.OK)
		}
		wantCheck(t, many(n), api.Shift{Kind: api.SInsSheet, At: n, Name: "b"}, api.OK)
		wantCheck(t, many(n), api.Shift{Kind: api.SMoveSheet, At: n, Sheet: "S0"}, api.ErrShift)
	}
}

// P15.1: how many sheets there may be, and that the last one may not go.
func TestCheckFull(t *testing.T) {
	for n := range api.MaxSheets + 3 {
		come, gone := api.OK, api.OK
		if n >= api.MaxSheets {
			come = api.ErrFull
		}
		switch n {
		case 0:
			gone = api.ErrNone
		case 1:
			gone = api.ErrFull
		}
		wantCheck(t, many(n), api.Shift{Kind: api.SInsSheet, At: n, Name: "new"}, come)
		wantCheck(t, many(n), api.Shift{Kind: api.SDelSheet, Sheet: "s0"}, gone)
	}
	wantCheck(t, many(api.MaxSheets), api.Shift{Kind: api.SNameSheet, Sheet: "s3", Name: "new"}, api.OK)
	wantCheck(t, many(api.MaxSheets), api.Shift{Kind: api.SMoveSheet, Sheet: "s3", At: api.MaxSheets - 1}, api.OK)
	wantCheck(t, []string{"a"}, api.Shift{Kind: api.SMoveSheet, Sheet: "a"}, api.OK)
	wantCheck(t, []string{"a"}, api.Shift{Kind: api.SNameSheet, Sheet: "a", Name: "b"}, api.OK)
}

// P15.1: names that sheets may not have, and names that one has.
func TestCheckNames(t *testing.T) {
	sheets := []string{"a", "B", "x y", "é"}
	come := func(name string) api.Shift { return api.Shift{Kind: api.SInsSheet, At: 4, Name: name} }
	named := func(sheet, name string) api.Shift {
		return api.Shift{Kind: api.SNameSheet, Sheet: sheet, Name: name}
	}
	for _, name := range []string{"", "x:y", "[", "]", "*", "?", "/", "\\", "'", "a\n", "\xff", "\uFFFE", strings.Repeat("n", api.MaxName+1)} {
		wantCheck(t, sheets, come(name), api.ErrShift)
		wantCheck(t, sheets, named("a", name), api.ErrShift)
	}
	for _, name := range []string{"c", " ", "1", "É", "xy", "aB", strings.Repeat("n", api.MaxName)} {
		wantCheck(t, sheets, come(name), api.OK)
		wantCheck(t, sheets, named("b", name), api.OK)
	}
	for i, name := range sheets {
		for _, other := range []string{name, strings.ToUpper(name), strings.ToLower(name)} {
			if !modelAlike(name, other) {
				continue
			}
			wantCheck(t, sheets, come(other), api.ErrTwice)
			for j, sheet := range sheets {
				want := api.ErrTwice
				if i == j {
					want = api.OK
				}
				wantCheck(t, sheets, named(sheet, other), want)
			}
		}
	}
	for _, sheet := range []string{"", "c", "É", "\xff", "a b"} {
		wantCheck(t, sheets, named(sheet, "c"), api.ErrNone)
		wantCheck(t, sheets, api.Shift{Kind: api.SMoveSheet, Sheet: sheet}, api.ErrNone)
		wantCheck(t, sheets, api.Shift{Kind: api.SDelSheet, Sheet: sheet}, api.ErrNone)
	}
}

// spoils are the things that may be wrong with a shift of a kind, in the order in which they are told.
func spoils(kind int) []func(sheets *[]string, x *api.Shift) api.Errno {
	noSheet := func(_ *[]string, x *api.Shift) api.Errno { x.Sheet = "zz"; return api.ErrNone }
	noName := func(_ *[]string, x *api.Shift) api.Errno { x.Name = "x:y"; return api.ErrShift }
	twice := func(_ *[]string, x *api.Shift) api.Errno {
		if x.Name != "x:y" {
			x.Name = "C"
		}
		return api.ErrTwice
	}
	at := func(_ *[]string, x *api.Shift) api.Errno { x.At = -1; return api.ErrShift }
	beyond := func(_ *[]string, x *api.Shift) api.Errno { x.At = api.MaxRows; return api.ErrShift }
	none := func(_ *[]string, x *api.Shift) api.Errno { x.N = 0; return api.ErrShift }
	full := func(l *[]string, _ *api.Shift) api.Errno {
		*l = append(*l, many(api.MaxSheets)...)[:api.MaxSheets]
		return api.ErrFull
	}
	one := func(l *[]string, _ *api.Shift) api.Errno { *l = (*l)[:1]; return api.ErrFull }
	known := func(l *[]string, _ *api.Shift) api.Errno { *l = append(*l, "x:y"); return api.OK }
	type all = []func(sheets *[]string, x *api.Shift) api.Errno
	switch kind {
	case api.SInsSheet:
		return all{at, beyond, noName, twice, full, known}
	case api.SDelSheet:
		return all{noSheet, one}
	case api.SMoveSheet:
		return all{noSheet, at, beyond}
	case api.SNameSheet:
		return all{noSheet, noName, twice, known}
	}
	return all{noSheet, none, at, beyond}
}

// good is a shift of a kind that may be in a, b, c.
func good(kind int) api.Shift {
	x := api.Shift{Kind: kind}
	switch kind {
	case api.SInsSheet:
		x.At, x.Name = 1, "new"
	case api.SDelSheet:
		x.Sheet = "a"
	case api.SMoveSheet:
		x.Sheet, x.At = "a", 1
	case api.SNameSheet:
		x.Sheet, x.Name = "a", "new"
	default:
		x.Sheet, x.At, x.N = "a", 1, 2
	}
	return x
}

// P15.1, R2: each thing that may be wrong alone, and each two at once, of which the first one is told.
func TestCheckOrder(t *testing.T) {
	for kind := api.SInsRows; kind <= api.SNameSheet; kind++ {
		wantCheck(t, []string{"a", "b", "c"}, good(kind), api.OK)
		all := spoils(kind)
		for i, first := range all {
			for _, second := range all[i:] {
				sheets, x := []string{"a", "b", "c"}, good(kind)
				want := first(&sheets, &x)
				if second(&sheets, &x); want == api.OK {
					continue
				}
				wantCheck(t, sheets, x, want)
				x.Kind = 9
				wantCheck(t, sheets, x, api.ErrShift)
			}
		}
	}
}

// unnamed are a kind's shifts with anything in the fields that are not named for it.
func unnamed(kind int) []api.Shift {
	var out []api.Shift
	for i, text := range []string{"", "a", "B", "zz", "x:y", "\xff"} {
		for j, n := range append(extremes(), -1, 0, 1, 99) {
			x := api.Shift{Kind: kind, Sheet: text, At: n, N: extremes()[(i+j)%6], Name: text}
			want := good(kind)
			switch kind {
			case api.SInsSheet:
				x.At, x.Name = want.At, want.Name
			case api.SDelSheet:
				x.Sheet = want.Sheet
			case api.SMoveSheet:
				x.Sheet, x.At = want.Sheet, want.At
			case api.SNameSheet:
				x.Sheet, x.Name = want.Sheet, want.Name
			default:
				x.Sheet, x.At, x.N = want.Sheet, want.At, want.N
			}
			out = append(out, x)
		}
	}
	return out
}

// P15.1 to P15.4: fields that are not named for a kind are not looked at, by no call.
func TestFieldsThatAreNotNamed(t *testing.T) {
	sheets := []string{"a", "b", "c"}
	for kind := api.SInsRows; kind <= api.SNameSheet; kind++ {
		m := modelOf(sheets, good(kind))
		for _, x := range unnamed(kind) {
			wantCheck(t, sheets, x, api.OK)
			wantSheets(t, sheets, x, m.names)
			for row := range 5 {
				a := api.Addr{Sheet: row % 3, Row: row, Col: row}
				want, stays := m.cell(a)
				wantCell(t, sheets, x, a, want, stays)
			}
			for _, s := range []string{".B3", ".B1:.D3", "a.A1:.B9", "$B.A2:.B9", "b.A1", "a.A1:b.B9", "new.A1", "zz.A1", "b.A1:c.A1"} {
				want, stays := m.ref("a", ref(s))
				wantRef(t, sheets, x, "a", ref(s), want, stays)
				if got, want := shift.Touches(sheets, x, "a", ref(s)), m.touches("a", ref(s)); got != want {
					t.Errorf("Touches(%s, %s): %v", told(x), s, got)
				}
			}
		}
	}
}
