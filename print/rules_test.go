package print_test

import (
	"slices"
	"strings"
	"sync"
	"testing"
	"unsafe"

	"gridiron/api"
	"gridiron/print"
	"gridiron/syntax"
)

// roomy is a term whose lists have something behind their ends.
func roomy(t api.Term) api.Term {
	args := make([]api.Term, 0, len(t.Args)+2)
	for _, x := range t.Args {
		args = append(args, roomy(x))
	}
	t.Args = append(args, name("behind"), name("it"))[:len(args)]
	return t
}

// R3: what is handed in is left as it is, and what lies behind a list's end; whether it has a text or not.
func TestLeftAsItIs(t *testing.T) {
	d := draws(3)
	all := everyBad()
	for range 500 {
		all = append(all, d.term(d.below(20)))
	}
	all = append(all, text(strings.Repeat("a", api.MaxText)), call("F", times(api.MaxArgs, text(strings.Repeat("a", 1000)))...))
	for _, before := range all {
		x := roomy(before)
		print.Formula(x)
		print.Term(x)
		if !syntax.Same(x, before) {
			t.Errorf("%s became %s", told(before), told(x))
		}
		for _, y := range inside(&x) {
			if room := y.Args[:len(y.Args)+2]; room[len(y.Args)].Name != "behind" || room[len(y.Args)+1].Name != "it" {
				t.Errorf("%s: what lies behind a list was changed", told(before))
			}
		}
	}
}

// R3: a text is new memory, also where it is a name or a sheet's alone.
func TestTextsAreNew(t *testing.T) {
	bytes := []byte("abSHEETto")
	lent := unsafe.String(&bytes[0], len(bytes))
	area := ref(api.Ref{Sheet: lent[2:7], To: lent[7:], Area: true})
	terms := []api.Term{name(lent[:2]), text(lent[:2]), call(lent[2:7]), area, op(api.NAdd, name(lent[:2]), call(lent[2:7], text(lent[:2]), area))}
	var got, said []string
	for _, x := range terms {
		term, _ := print.Term(x)
		formula, _ := print.Formula(x)
		got = append(got, term, formula)
		said = append(said, strings.Clone(term), strings.Clone(formula))
	}
	copy(bytes, "#########")
	if !slices.Equal(got, said) || !slices.Equal(said[:2], []string{"ab", "=ab"}) || said[8] != `ab+SHEET("ab";[SHEET.A1:to.A1])` {
		t.Errorf("%q became %q", said, got)
	}
}

// R1: every call ends and none panics, however deep and wide a term is.
func TestNoPanic(t *testing.T) {
	const deep = 1 << 16
	for i, way := range []func(api.Term) api.Term{
		func(x api.Term) api.Term { return op(api.NNeg, x) },
		func(x api.Term) api.Term { return op(api.NPer, x) },
		func(x api.Term) api.Term { return op(api.NAdd, x, num(1)) },
		func(x api.Term) api.Term { return op(api.NAdd, num(1), x) },
		func(x api.Term) api.Term { return call("F", x) },
		func(x api.Term) api.Term { return array(1, x) },
		func(x api.Term) api.Term { return op(0, x) },
		func(x api.Term) api.Term { return op(api.NNum, x) },
	} {
		x := nested(deep, num(1), way)
		formula, e1 := print.Formula(x)
		term, e2 := print.Term(x)
		if formula != "" || term != "" || e1 != api.ErrPrint || e2 != api.ErrPrint {
			t.Errorf("%d terms within one another, way %d: %d, %d", deep, i, e1, e2)
		}
	}
	wantNone(t, call("F", make([]api.Term, 1<<18)...), api.ErrPrint)
	wantNone(t, array(1<<18, times(1<<18, num(1))...), api.ErrPrint)
	wantNone(t, op(api.NAdd, times(1<<18, num(1))...), api.ErrPrint)
	wantNone(t, name(strings.Repeat("n", 1<<24)), api.ErrPrint)
	wantNone(t, text(strings.Repeat(`"`, 1<<24)), api.ErrPrint)
	d := draws(9)
	for range 3000 {
		x := d.term(d.below(20))
		for range 3 {
			x = d.near(x)
		}
		for _, y := range inside(&x) {
			if d.below(4) == 0 {
				y.Op = d.below(40) - 7
			}
		}
		if syntax.Check(x) {
			wantBack(t, x)
		} else {
			wantNone(t, x, api.ErrPrint)
		}
	}
}

// R4: many at once answer what one does, and a term that was refused leaves nothing behind.
func TestAtOnce(t *testing.T) {
	d := draws(4)
	var terms []api.Term
	var formulas []string
	for range 60 {
		x := d.term(d.below(25))
		formula, _ := print.Formula(x)
		terms, formulas = append(terms, x), append(formulas, formula)
	}
	long := text(strings.Repeat("a", api.MaxText))
	var all sync.WaitGroup
	for range 8 {
		all.Go(func() {
			for i, x := range terms {
				wantNone(t, op(api.NCat, x, long), api.ErrLong)
				wantNone(t, op(api.NCat, x, num(-1)), api.ErrPrint)
				want(t, x, formulas[i][1:])
			}
		})
	}
	all.Wait()
}
