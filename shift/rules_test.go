package shift_test

import (
	"slices"
	"strings"
	"sync"
	"testing"
	"unsafe"

	"gridiron/api"
	"gridiron/refs"
	"gridiron/shift"
	"gridiron/syntax"
)

// R1: every call ends and none panics, whatever it is given; beside a false and an error all else is zero.
func TestNoPanic(t *testing.T) {
	names := []string{"", "a", "A", "b", "\xff", "a:b", "'"}
	for _, sheets := range [][]string{nil, {}, {""}, {"a"}, {"", "a"}, {"a", ""}, {"a", "", "b", "A", "a"}, {"\xff", "a:b", "'"}, many(1000)} {
		for kind := -1; kind < 10; kind++ {
			for i, sheet := range names {
				for j, at := range append(extremes(), -1, 0, 1, 2, 5) {
					x := api.Shift{Kind: kind, Sheet: sheet, At: at, N: extremes()[(i+j)%6], Name: names[(i+j)%7]}
					anything(t, sheets, x)
					x.N = 1 + j
					anything(t, sheets, x)
				}
			}
		}
	}
}

// anything asks each call of a shift about cells and references of any kind.
func anything(t *testing.T, sheets []string, x api.Shift) {
	t.Helper()
	errno := shift.Check(sheets, x)
	if names, e := shift.Sheets(sheets, x); e != errno || e != api.OK && names != nil {
		t.Errorf("Sheets(%q, %s): %q, %d, want %d", sheets, told(x), names, e, errno)
	}
	for i, n := range append(extremes(), -1, 0, 1, 2) {
		a := api.Addr{Sheet: n, Row: 1, Col: n}
		if got, is := shift.Cell(sheets, x, a); !is && got != (api.Addr{}) {
			t.Errorf("Cell(%s, %s): %s, false", told(x), told(a), told(got))
		}
		r := api.Ref{Area: i%3 > 0, A: api.Corner{Row: n, Col: i}, Sheet: []string{"", "a", "b", "\xff"}[i%4]}
		if r.Area {
			r.B = api.Corner{Row: i, Col: n}
			r.To = []string{"", "b", "", "a", "A"}[i%5]
		}
		got, stays := shift.Ref(sheets, x, "a", r)
		if refused := errno != api.OK || refs.Check(r) != api.OK; refused && (!stays || got != r) || !stays && got != (api.Ref{}) {
			t.Errorf("Ref(%s, %s): %s, %v", told(x), told(r), told(got), stays)
		}
		shift.Touches(sheets, x, "a", r)
		shift.Term(sheets, x, "", api.Term{Op: api.NRef, Ref: r, Args: []api.Term{{}}})
	}
}

// R1: terms that are deep and wide.
func TestDeepAndWide(t *testing.T) {
	sheets := []string{"a", "b"}
	x := api.Shift{Kind: api.SInsRows, Sheet: "a", N: 2}
	deep, want := api.Term{Op: api.NRef, Ref: ref(".A1")}, api.Term{Op: api.NRef, Ref: ref(".A3")}
	for range 1 << 16 {
		deep, want = api.Term{Op: api.NNeg, Args: []api.Term{deep}}, api.Term{Op: api.NNeg, Args: []api.Term{want}}
	}
	if !syntax.Same(shift.Term(sheets, x, "a", deep), want) {
		t.Error("a deep term")
	}
	wide, want := api.Term{Op: api.NCall}, api.Term{Op: api.NCall}
	for range 1 << 17 {
		wide.Args = append(wide.Args, api.Term{Op: api.NRef, Ref: ref(".A1")})
		want.Args = append(want.Args, api.Term{Op: api.NRef, Ref: ref(".A3")})
	}
	if !syntax.Same(shift.Term(sheets, x, "a", wide), want) {
		t.Error("a wide term")
	}
	long := strings.Repeat("a", 1<<24)
	wantFind(t, []string{long + "b", long}, strings.ToUpper(long), 1, true)
	wantCheck(t, []string{long}, api.Shift{Kind: api.SInsSheet, Name: long}, api.ErrShift)
	wantCheck(t, []string{long}, api.Shift{Kind: api.SInsRows, Sheet: strings.ToUpper(long), N: 1}, api.OK)
}

// roomy is a term whose lists have something behind their ends.
func roomy(t api.Term) api.Term {
	args := make([]api.Term, 0, len(t.Args)+2)
	for _, x := range t.Args {
		args = append(args, roomy(x))
	}
	behind := api.Term{Op: api.NRef, Ref: ref(".A2"), Name: "behind"}
	t.Args = append(args, behind, behind)[:len(args)]
	return t
}

// untouched tells whether what lies behind a roomy term's lists is as it was.
func untouched(t api.Term) bool {
	room := t.Args[:len(t.Args)+2]
	for _, x := range room[len(t.Args):] {
		if x.Name != "behind" || x.Op != api.NRef || x.Ref != ref(".A2") {
			return false
		}
	}
	return !slices.ContainsFunc(t.Args, func(x api.Term) bool { return !untouched(x) })
}

// R3: what is handed in is left as it is, and what lies behind a list's end.
func TestLeftAsItIs(t *testing.T) {
	d := draws(9)
	for range 400 {
		given := d.sheets()
		x := d.shift(given)
		room := append(slices.Clone(given), "behind", "it", "too")
		sheets := room[:len(given)]
		before := d.term(given, x, 1+d.below(30))
		term := roomy(before)
		out := shift.Term(sheets, x, "a", term)
		shift.Find(sheets, x.Name)
		shift.Check(sheets, x)
		shift.Sheets(sheets, x)
		shift.Cell(sheets, x, d.address(given, x))
		shift.Ref(sheets, x, "a", before.Ref)
		shift.Touches(sheets, x, "a", before.Ref)
		if !slices.Equal(room, append(slices.Clone(given), "behind", "it", "too")) {
			t.Errorf("%s: the sheets became %q", told(x), room)
		}
		if !syntax.Same(term, before) || !untouched(term) {
			t.Errorf("%s: %s became %s", told(x), told(before), told(term))
		}
		spoil(out)
		if !syntax.Same(term, before) || !untouched(term) {
			t.Errorf("%s: what became of %s is not new", told(x), told(before))
		}
	}
}

// spoil puts something else into all lists of a term, and into the room behind them.
func spoil(t api.Term) {
	for i, x := range t.Args[:cap(t.Args)] {
		spoil(x)
		t.Args[:cap(t.Args)][i] = api.Term{Op: 99}
	}
}

// R3: the names that are answered are a list of their own, its room too.
func TestSheetsAreNew(t *testing.T) {
	for kind := api.SInsRows; kind <= api.SNameSheet; kind++ {
		sheets := []string{"a", "b", "c", "d"}
		first, _ := shift.Sheets(sheets, good(kind))
		for _, name := range first[len(first):cap(first)] {
			if name != "" {
				t.Errorf("kind %d: %q lies behind the names", kind, name)
			}
		}
		second, _ := shift.Sheets(sheets, good(kind))
		kept := slices.Clone(second)
		for i := range first[:cap(first)] {
			first[:cap(first)][i] = "spoiled"
		}
		if !slices.Equal(sheets, []string{"a", "b", "c", "d"}) || !slices.Equal(second, kept) {
			t.Errorf("kind %d: %q and %q share memory with an answer", kind, sheets, second)
		}
	}
}

// lent are texts that change when their bytes do.
type lent struct{ bytes []byte }

func (l *lent) text(s string) string {
	at := len(l.bytes)
	l.bytes = append(l.bytes, s...)
	return unsafe.String(&l.bytes[at], len(s))
}

func (l *lent) refs() []api.Ref {
	out := []api.Ref{{Sheet: l.text("sheet")}, {Sheet: l.text("other"), Fixed: true}, {Sheet: l.text("bad:"), To: l.text("bad?")}, {Sheet: l.text("sheet"), B: api.Corner{Row: 1}}}
	for _, names := range [][2]string{{"sheet", "other"}, {"other", "sheet"}, {"last", "last"}, {"sheet", "last"}, {"zz", "yy"}} {
		out = append(out, api.Ref{Sheet: l.text(names[0]), To: l.text(names[1]), Area: true})
	}
	return out
}

// R3: no text of an answer lies in what was handed in.
func TestTextsAreNew(t *testing.T) {
	l := &lent{bytes: make([]byte, 0, 1<<14)}
	sheets := []string{l.text("other"), l.text("sheet"), l.text("more"), l.text("last")}
	name, named, wrong := l.text("SHEET"), l.text("new"), l.text("wrong")
	var got []api.Term
	var lists [][]string
	for kind := 0; kind <= api.SNameSheet; kind++ {
		for _, sheet := range []string{name, wrong} {
			x := api.Shift{Kind: kind, Sheet: sheet, At: 1, N: 1, Name: named}
			names, _ := shift.Sheets(sheets, x)
			lists = append(lists, names)
			for _, r := range l.refs() {
				out, _ := shift.Ref(sheets, x, sheet, r)
				full := api.Term{Op: api.NRef, Ref: r, Text: l.text("text"), Name: l.text("name")}
				got = append(got, api.Term{Op: api.NRef, Ref: out}, shift.Term(sheets, x, sheet, api.Term{Op: api.NCall, Name: l.text("call"), Text: wrong, Args: []api.Term{full}}))
			}
		}
	}
	if cap(l.bytes) != 1<<14 {
		t.Fatal("what was lent lies elsewhere")
	}
	said := told(lists)
	for _, x := range got {
		said += told(x)
	}
	said = strings.Clone(said)
	whole := l.bytes[:cap(l.bytes)]
	for i := range whole {
		whole[i] = '#'
	}
	again := told(lists)
	for _, x := range got {
		again += told(x)
	}
	if said != again {
		t.Error("answers change with what was handed in")
	}
}

// R4: many at once answer what one does.
func TestAtOnce(t *testing.T) {
	sheets := []string{"a", "b", "c"}
	x := api.Shift{Kind: api.SDelRows, Sheet: "b", At: 3, N: 2}
	m := modelOf(sheets, x)
	from, want := formula("=SUM([b.A1:.A9];[.A4])*[.A9]"), formula("=SUM([b.A1:.A7];#REF!)*[.A7]")
	var all sync.WaitGroup
	for range 8 {
		all.Go(func() {
			for row := range 12 {
				for end := range 12 {
					checkRef(t, m, "b", api.Ref{Area: true, A: api.Corner{Row: row}, B: api.Corner{Row: end}})
				}
				a := api.Addr{Sheet: 1, Row: row}
				b, stays := m.cell(a)
				wantCell(t, sheets, x, a, b, stays)
				wantTerm(t, sheets, x, "B", from, want)
				wantSheets(t, sheets, api.Shift{Kind: api.SMoveSheet, Sheet: "a", At: 1}, []string{"b", "a", "c"})
			}
		})
	}
	all.Wait()
}
