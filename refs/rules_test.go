package refs_test

import (
	"math"
	"strings"
	"sync"
	"testing"
	"unsafe"

	"gridiron/api"
	"gridiron/refs"
)

// P11.5: Parse of Text is the reference, of drawn ones; Text of Parse is the text, of drawn texts (checkParse holds that).
func TestThereAndBack(t *testing.T) {
	d := draws(5)
	for range 50000 {
		r := d.ref()
		text, errno := refs.Text(r)
		if model, _ := modelText(r); text != model || errno != api.OK {
			t.Errorf("Text(%s): %q, %d, want %q", told(r), text, errno, model)
		}
		if back, at, errno := refs.Parse(text); back != r || at != 0 || errno != api.OK {
			t.Errorf("Parse(%s): %s, %d, %d, want %s", short(text), told(back), at, errno, told(r))
		}
		for range 1 + d.below(3) {
			text = d.spoiled(text)
		}
		checkParse(t, text)
	}
}

// P11.6: a cell lies in what is common just if it lies in both, of drawn references with small corners and with extreme ones.
func TestHasOfCommon(t *testing.T) {
	d := draws(6)
	for round := range 40000 {
		number := func() int { return d.below(5) }
		if round%4 == 0 {
			number = func() int { return extremes[d.below(len(extremes))] }
		}
		ref := func() api.Ref {
			r := d.ref()
			r.A.Row, r.A.Col, r.B.Row, r.B.Col = number(), number(), number(), number()
			return r
		}
		a, b := ref(), ref()
		common, is := refs.Common(a, b)
		if !is && common != (api.Ref{}) {
			t.Errorf("Common(%s, %s): %s, false", told(a), told(b), told(common))
		}
		some := false
		for range 12 {
			c := api.Cell{Row: number(), Col: number()}
			both := refs.Has(a, c) && refs.Has(b, c)
			some = some || both
			if got := is && refs.Has(common, c); got != both {
				t.Errorf("Has(Common(%s, %s), %s): %v", told(a), told(b), told(c), got)
			}
		}
		if some && !is {
			t.Errorf("Common(%s, %s): false", told(a), told(b))
		}
		norm := refs.Norm(a)
		for range 4 {
			if c := (api.Cell{Row: number(), Col: number()}); refs.Has(norm, c) != refs.Has(a, c) {
				t.Errorf("Has(Norm(%s), %s) is not Has of it", told(a), told(c))
			}
		}
	}
}

// R1: every call ends and none panics, whatever it is given.
func TestNoPanic(t *testing.T) {
	names := []string{"", "a", "'", "\xff", "a:b", strings.Repeat("é", 1000)}
	for _, row := range extremes {
		for _, col := range extremes {
			for i, name := range names {
				r := api.Ref{Sheet: name, To: names[(i+1)%len(names)], Fixed: i%2 == 0, Area: i%3 == 0, A: api.Corner{Row: row, Col: col}, B: api.Corner{Row: col, Col: row}}
				wantCheck(t, r, modelCheck(r))
				refs.Norm(r)
				refs.Size(r)
				refs.Has(r, api.Cell{Row: col, Col: row})
				refs.Common(r, api.Ref{Area: true, A: r.B, B: r.A})
			}
		}
		refs.Column(row)
	}
	for _, s := range []string{strings.Repeat("'", 1<<16), strings.Repeat("$", 1<<16), strings.Repeat(".", 1<<16), strings.Repeat(".A1:", 1<<14), strings.Repeat("\xff", 1<<16), "'" + strings.Repeat("\xff", 1<<20), strings.Repeat("a", 1<<20), "." + strings.Repeat("Z", 1<<20), ".A" + strings.Repeat("0", 1<<20)} {
		checkParse(t, s)
		refs.ParseColumn(s)
		wantSheetName(t, s, false)
	}
}

// within tells whether an answer lies in the memory of a text.
func within(answer, s string) bool {
	from := uintptr(unsafe.Pointer(unsafe.StringData(s)))
	at := uintptr(unsafe.Pointer(unsafe.StringData(answer)))
	return at < from+uintptr(len(s)) && from < at+uintptr(len(answer))
}

// R3: answers are new memory, and what is handed in is left as it is.
func TestAnswersAreNew(t *testing.T) {
	bytes := []byte("$Sheet_one.A1:'and two'.B2")
	s := unsafe.String(&bytes[0], len(bytes))
	r, _, errno := refs.Parse(s)
	if errno != api.OK || r.Sheet != "Sheet_one" || r.To != "and two" || within(r.Sheet, s) || within(r.To, s) {
		t.Errorf("Parse(%q): %s, %d, in what was handed in", s, told(r), errno)
	}
	mine := api.Ref{Sheet: s[1:10], To: s[15:22], Fixed: true, Area: true, A: api.Corner{Row: 3}, B: api.Corner{Col: 2}}
	plain, _ := refs.Quote(mine.Sheet)
	quoted, _ := refs.Quote(mine.To)
	text, _ := refs.Text(mine)
	norm := refs.Norm(mine)
	bare := mine
	bare.Area = false
	alone := refs.Norm(bare)
	common, _ := refs.Common(mine, mine)
	for name, answer := range map[string]string{"Quote": plain, "Quote with quotes": quoted, "Text": text, "Norm's Sheet": norm.Sheet, "Norm's To": norm.To, "Norm's Sheet of no Area": alone.Sheet, "Norm's To of no Area": alone.To, "Common's Sheet": common.Sheet, "Common's To": common.To} {
		if answer == "" || within(answer, s) {
			t.Errorf("%s: %q lies in what was handed in", name, answer)
		}
	}
	if string(bytes) != "$Sheet_one.A1:'and two'.B2" {
		t.Errorf("changed: %q", bytes)
	}
	copy(bytes, strings.Repeat("#", len(bytes)))
	if r.Sheet != "Sheet_one" || r.To != "and two" || norm.Sheet != "Sheet_one" || common.To != "and two" || plain != "Sheet_one" || quoted != "'and two'" {
		t.Error("answers change with what was handed in")
	}
}

// R4: many at once answer what one does.
func TestAtOnce(t *testing.T) {
	var all sync.WaitGroup
	for range 8 {
		all.Go(func() {
			for _, s := range texts() {
				checkParse(t, s)
				checkParse(t, s[1:])
				checkParse(t, s+"'")
			}
			wantColumn(t, 1023, "AMJ", api.OK)
			wantColumn(t, math.MaxInt, "", api.ErrAddr)
			wantCommon(t, area(0, 0, 1, 1), area(1, 1, 2, 2), cell(1, 1), true)
		})
	}
	all.Wait()
}
