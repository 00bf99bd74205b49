package syntax_test

import (
	"slices"
	"strings"
	"sync"
	"testing"
	"unsafe"

	"gridiron/api"
	"gridiron/syntax"
)

// within tells whether an answer lies in the memory of a text.
func within(answer, s string) bool {
	if answer == "" || s == "" {
		return false
	}
	from := uintptr(unsafe.Pointer(unsafe.StringData(s)))
	at := uintptr(unsafe.Pointer(unsafe.StringData(answer)))
	return at < from+uintptr(len(s)) && from < at+uintptr(len(answer))
}

// lent is a text over bytes that can be changed.
func lent(s string) ([]byte, string) {
	b := []byte(s)
	return b, unsafe.String(&b[0], len(b))
}

const everyKind = `=name_1 <= "plain" + "dou""bled" & SUM([$first.A1:'and last'.B2] ; true ; {"in"; TRUE}) % low(#N/A)`

// R3: terms are new memory, and the formula is left as it is and not kept.
func TestTermsAreNew(t *testing.T) {
	said := strings.Replace(everyKind, "% low", "% ^ low", 1)
	b, s := lent(said)
	got, _, errno := syntax.Parse(s)
	if errno != api.OK || string(b) != said {
		t.Fatalf("%d, %q", errno, b)
	}
	for _, x := range modelWalk(got) {
		if within(x.Text, s) || within(x.Name, s) || within(x.Ref.Sheet, s) || within(x.Ref.To, s) {
			t.Errorf("%s lies in what was handed in", told(x))
		}
	}
	want, _, _ := modelParse(said)
	copy(b, strings.Repeat("#", len(b)))
	if !alike(got, want) {
		t.Error("the term changes with the formula")
	}
}

// span is the memory of a list, its spare room too.
type span struct{ from, to uintptr }

func spans(t api.Term) []span {
	var out []span
	for _, x := range modelWalk(t) {
		if cap(x.Args) > 0 {
			from := uintptr(unsafe.Pointer(unsafe.SliceData(x.Args)))
			out = append(out, span{from, from + uintptr(cap(x.Args))*unsafe.Sizeof(x)})
		}
	}
	return out
}

func apart(all []span) bool {
	for i, a := range all {
		for _, b := range all[:i] {
			if a.from < b.to && b.from < a.to {
				return false
			}
		}
	}
	return true
}

// R3: no two lists of an answer share memory, nor with another answer's or with what was handed in.
func TestListsAreOwn(t *testing.T) {
	d := draws(9)
	for range 1000 {
		x := d.term(d.below(30))
		s := "=" + written(x)
		a, _, _ := syntax.Parse(s)
		b, _, _ := syntax.Parse(s)
		if !apart(slices.Concat(spans(a), spans(b))) {
			t.Fatalf("Parse(%s) shares lists", short(s))
		}
		if !apart(slices.Concat(spans(a), spans(syntax.Clone(a)), spans(syntax.Clone(a)))) {
			t.Fatalf("Clone(%s) shares lists", told(a))
		}
		for _, l := range modelWalk(a) {
			for _, spare := range l.Args[len(l.Args):cap(l.Args)] {
				if !alike(spare, api.Term{}) {
					t.Fatalf("%s lies behind the end of a list", told(spare))
				}
			}
		}
	}
}

// lentTerm is a term whose texts lie in bytes that can be changed.
func lentTerm() ([]byte, string, api.Term) {
	b, s := lent("abcSheetTo")
	inner := api.Term{Op: api.NRef, Ref: api.Ref{Sheet: s[3:8], To: s[8:], Area: true}}
	return b, s, api.Term{Op: api.NCall, Text: s[:1], Name: s[1:2], Args: []api.Term{{Op: api.NName, Name: s[2:3]}, inner, inner}}
}

// R3: what goes through a term keeps nothing of it, and is as it was when it was asked for.
func TestWalksAreNew(t *testing.T) {
	b, s, x := lentTerm()
	clone, seq, names, calls := syntax.Clone(x), syntax.Refs(x), syntax.Names(x), syntax.Calls(x)
	for _, y := range modelWalk(clone) {
		if within(y.Text, s) || within(y.Name, s) || within(y.Ref.Sheet, s) || within(y.Ref.To, s) {
			t.Errorf("%s lies in what was handed in", told(y))
		}
	}
	for r := range seq {
		if within(r.Sheet, s) || within(r.To, s) {
			t.Errorf("%v lies in what was handed in", r)
		}
	}
	if within(names[0], s) || within(calls[0], s) || string(b) != "abcSheetTo" {
		t.Errorf("%q, %q lie in what was handed in", names, calls)
	}
	_, _, want := lentTerm()
	copy(b, "##########")
	x.Args[1] = num(1)
	x.Args = x.Args[:2]
	if !alike(clone, want) || !slices.Equal(names, []string{"c"}) || !slices.Equal(calls, []string{"b"}) {
		t.Errorf("%s, %q, %q change with what was handed in", told(clone), names, calls)
	}
	if got := slices.Collect(seq); !slices.Equal(got, modelRefs(want)) {
		t.Errorf("Refs has kept the term: %v", got)
	}
}

// R3: what is handed in is left as it is, and what lies behind a list's end.
func TestLeftAsItIs(t *testing.T) {
	for _, x := range everyTerm() {
		before := deepCopy(x)
		room := append(slices.Clone(x.Args), name("behind"), name("it"))
		x.Args = room[:len(room)-2]
		syntax.Check(x)
		syntax.Same(x, x)
		syntax.Clone(x)
		syntax.Count(x)
		_ = slices.Collect(syntax.Refs(x))
		syntax.Names(x)
		syntax.Calls(x)
		if !alike(x, before) || room[len(room)-2].Name != "behind" || room[len(room)-1].Name != "it" {
			t.Errorf("%s was changed", told(before))
		}
	}
	x := several()
	names := syntax.Names(x)
	clear(names[:cap(names)])
	if again := syntax.Names(x); !slices.Equal(again, []string{"rate", "Rate"}) {
		t.Errorf("answers share memory: %q", again)
	}
}

// R1: every call ends and none panics, whatever it is given, however deep and wide.
func TestNoPanic(t *testing.T) {
	for _, piece := range []string{"(", "-", "F(", "1+", "{", "{1;", "%", "=", ";", ")", "1", `"`, "[", "\xff", "", "1^(", "F(;"} {
		for _, n := range []int{0, 1, 63, 64, 65, 1000, api.MaxFormula, 1 << 17} {
			check(t, strings.Repeat(piece, n))
			check(t, "="+strings.Repeat(piece, n))
			check(t, "="+strings.Repeat(piece, n)+"1")
		}
	}
	const deep = 1 << 16
	ways := []func(api.Term) api.Term{
		func(x api.Term) api.Term { return op(api.NNeg, x) },
		func(x api.Term) api.Term { return op(api.NPer, x) },
		func(x api.Term) api.Term { return call("F", name("a"), x) },
		func(x api.Term) api.Term { return op(api.NAdd, x, num(1)) },
		func(x api.Term) api.Term { return op(api.NAdd, num(1), x) },
		func(x api.Term) api.Term { return op(0, x) },
		func(x api.Term) api.Term { return array(1, x) },
	}
	for i, way := range ways {
		x := nested(deep, ref(".A1"), way)
		refs := 0
		for range syntax.Refs(x) {
			refs++
		}
		each := syntax.Count(way(num(1))) - 1
		if syntax.Check(x) || syntax.Count(x) != deep*each+1 || !syntax.Same(x, syntax.Clone(x)) || refs != 1 || len(syntax.Names(x)) > 1 || len(syntax.Calls(x)) > 1 {
			t.Errorf("%d terms within one another, way %d", deep, i)
		}
	}
	wide := call("F")
	for i := range 1 << 17 {
		wide.Args = append(wide.Args, name(strings.Repeat("n", i%50)+string(rune('a'+i%26))), ref(".A1"))
	}
	if syntax.Check(wide) || syntax.Count(wide) != 1<<18+1 || !syntax.Same(wide, syntax.Clone(wide)) || len(syntax.Names(wide)) != 650 {
		t.Errorf("%d names", len(syntax.Names(wide)))
	}
}

// R4: many at once answer what one does.
func TestAtOnce(t *testing.T) {
	x := several()
	seq := syntax.Refs(x)
	var all sync.WaitGroup
	for range 8 {
		all.Go(func() {
			for range 50 {
				check(t, "="+written(x))
				check(t, everyKind)
				checkWalks(t, x)
				wantCheck(t, x, true)
				if !slices.Equal(slices.Collect(seq), modelRefs(x)) || !syntax.Same(x, syntax.Clone(x)) {
					t.Error("Refs, Same, Clone")
				}
			}
		})
	}
	all.Wait()
}
