package syntax_test

import (
	"math"
	"slices"
	"testing"

	"gridiron/api"
	"gridiron/syntax"
)

// everyChange are changes of one field of a term each.
func everyChange() []func(*api.Term) {
	return []func(*api.Term){
		func(x *api.Term) { x.Op++ },
		func(x *api.Term) { x.Num = math.Float64frombits(math.Float64bits(x.Num) ^ 1) },
		func(x *api.Term) {
			x.Num = math.Copysign(x.Num, map[bool]float64{true: 1, false: -1}[math.Signbit(x.Num)])
		},
		func(x *api.Term) { x.Text += "a" },
		func(x *api.Term) { x.Err++ },
		func(x *api.Term) { x.Name += "a" },
		func(x *api.Term) { x.Ref.Sheet += "a" },
		func(x *api.Term) { x.Ref.To += "a" },
		func(x *api.Term) { x.Ref.Fixed = !x.Ref.Fixed },
		func(x *api.Term) { x.Ref.Area = !x.Ref.Area },
		func(x *api.Term) { x.Ref.A.Row++ },
		func(x *api.Term) { x.Ref.A.Col++ },
		func(x *api.Term) { x.Ref.A.AbsRow = !x.Ref.A.AbsRow },
		func(x *api.Term) { x.Ref.A.AbsCol = !x.Ref.A.AbsCol },
		func(x *api.Term) { x.Ref.B.Row++ },
		func(x *api.Term) { x.Ref.B.Col++ },
		func(x *api.Term) { x.Ref.B.AbsRow = !x.Ref.B.AbsRow },
		func(x *api.Term) { x.Ref.B.AbsCol = !x.Ref.B.AbsCol },
		func(x *api.Term) { x.Rows++ },
		func(x *api.Term) { x.Args = append(slices.Clone(x.Args), api.Term{}) },
		func(x *api.Term) {
			if len(x.Args) > 0 {
				x.Args = x.Args[:len(x.Args)-1]
			} else {
				x.Args = []api.Term{num(1)}
			}
		},
	}
}

// several is a term with references, names, calls and arrays at several places.
func several() api.Term {
	area := ref("$S.$A$1:T.B2")
	inner := call("SUM", ref(".A1"), miss(), op(api.NNeg, name("rate")), array(2, num(-1), text("x"), call("TRUE"), failure(7)))
	return op(api.NAdd, op(api.NUnion, area, ref(".A1")), op(api.NMul, inner, op(api.NPer, call("F", name("Rate"), name("rate"), call("SUM"), ref(".C3")))))
}

// odd are terms that Check refuses.
func odd() []api.Term {
	full := api.Term{Op: api.NRef, Num: math.NaN(), Text: "\xff", Err: -1, Name: "n", Ref: api.Ref{Sheet: "\xff", B: api.Corner{Row: -5}}, Rows: math.MinInt, Args: []api.Term{ref(".A1"), name(""), call("f", name("x"))}}
	named, called := full, full
	named.Op, called.Op = api.NName, api.NCall
	other := full
	other.Op = 99
	return []api.Term{{}, full, named, called, other, op(-1, full, named, called, full), op(api.NAdd), op(api.NNum, ref(".A1"), name("a")), miss(), op(api.NMiss, call("G"), call("g")), array(-1, full)}
}

// everyTerm are sound and odd terms.
func everyTerm() []api.Term {
	return slices.Concat(sample(), odd(), []api.Term{several(), call("F", several(), several())})
}

// P13.3: the same, but not with one field changed at any place.
func TestSame(t *testing.T) {
	all := everyTerm()
	for i, a := range all {
		for k, b := range all {
			if got := syntax.Same(a, b); got != (i == k) {
				t.Errorf("Same(%s, %s): %v", told(a), told(b), got)
			}
		}
		if !syntax.Same(a, deepCopy(a)) {
			t.Errorf("Same(%s, a copy): false", told(a))
		}
		for at := range places(&a) {
			for n, change := range everyChange() {
				b := deepCopy(a)
				change(places(&b)[at])
				if syntax.Same(a, b) || syntax.Same(b, a) {
					t.Errorf("Same(%s, change %d at %d): true", told(a), n, at)
				}
			}
		}
	}
	// nil and empty lists are the same
	if !syntax.Same(api.Term{Op: api.NNum}, api.Term{Op: api.NNum, Args: []api.Term{}}) || !syntax.Same(op(1, api.Term{Args: []api.Term{}}), op(1, api.Term{})) {
		t.Error("an empty list is not nil")
	}
}

// P13.3: numbers are held against each other bit for bit.
func TestSameBits(t *testing.T) {
	numbers := []uint64{0, 1 << 63, 1, math.Float64bits(1), math.Float64bits(math.NaN()), math.Float64bits(math.NaN()) ^ 1, math.Float64bits(math.NaN()) | 1<<63, math.Float64bits(math.Inf(1)), math.Float64bits(math.Inf(-1))}
	for _, a := range numbers {
		for _, b := range numbers {
			x, y := num(math.Float64frombits(a)), num(math.Float64frombits(b))
			if syntax.Same(x, y) != (a == b) || syntax.Same(call("F", miss(), x), call("F", miss(), y)) != (a == b) {
				t.Errorf("Same of %x and %x: not %v", a, b, a == b)
			}
		}
	}
}

// P13.3: a clone is the same, and neither changes with the other.
func TestClone(t *testing.T) {
	for _, a := range everyTerm() {
		before := deepCopy(a)
		b := syntax.Clone(a)
		if !alike(b, before) || !alike(a, before) {
			t.Errorf("Clone(%s): %s", told(before), told(b))
		}
		for at := range places(&a) {
			for _, change := range everyChange() {
				one := syntax.Clone(a)
				change(places(&one)[at])
				if !alike(a, before) {
					t.Fatalf("%s changes with its clone at %d", told(before), at)
				}
				other := deepCopy(a)
				two := syntax.Clone(other)
				change(places(&other)[at])
				if !alike(two, before) {
					t.Fatalf("the clone of %s changes with it at %d", told(before), at)
				}
			}
		}
	}
}

// modelWalk are the terms of a term, each ahead of its Args.
func modelWalk(t api.Term) []api.Term {
	out := []api.Term{t}
	for _, x := range t.Args {
		out = append(out, modelWalk(x)...)
	}
	return out
}

func modelRefs(t api.Term) []api.Ref {
	var out []api.Ref
	for _, x := range modelWalk(t) {
		if x.Op == api.NRef {
			out = append(out, x.Ref)
		}
	}
	return out
}

func modelNames(t api.Term, op int) []string {
	var out []string
	for _, x := range modelWalk(t) {
		if x.Op == op && !slices.Contains(out, x.Name) {
			out = append(out, x.Name)
		}
	}
	return out
}

// checkWalks holds what goes through a term against the model.
func checkWalks(t *testing.T, x api.Term) {
	t.Helper()
	if got, want := syntax.Count(x), len(modelWalk(x)); got != want {
		t.Errorf("Count(%s): %d, want %d", told(x), got, want)
	}
	if got, want := slices.Collect(syntax.Refs(x)), modelRefs(x); !slices.Equal(got, want) {
		t.Errorf("Refs(%s): %v, want %v", told(x), got, want)
	}
	if got, want := syntax.Names(x), modelNames(x, api.NName); !slices.Equal(got, want) {
		t.Errorf("Names(%s): %q, want %q", told(x), got, want)
	}
	if got, want := syntax.Calls(x), modelNames(x, api.NCall); !slices.Equal(got, want) {
		t.Errorf("Calls(%s): %q, want %q", told(x), got, want)
	}
}

// P13.3: Count, Refs, Names and Calls of terms that may be and of others.
func TestWalks(t *testing.T) {
	for _, x := range everyTerm() {
		checkWalks(t, x)
	}
	x := several()
	if got := syntax.Count(x); got != 21 {
		t.Errorf("Count: %d", got)
	}
	if got := syntax.Names(x); !slices.Equal(got, []string{"rate", "Rate"}) {
		t.Errorf("Names: %q", got)
	}
	if got := syntax.Calls(x); !slices.Equal(got, []string{"SUM", "TRUE", "F"}) {
		t.Errorf("Calls: %q", got)
	}
	want := []api.Ref{ref("$S.$A$1:T.B2").Ref, ref(".A1").Ref, ref(".A1").Ref, ref(".C3").Ref}
	if got := slices.Collect(syntax.Refs(x)); !slices.Equal(got, want) {
		t.Errorf("Refs: %v", got)
	}
	if syntax.Count(api.Term{}) != 1 || len(syntax.Names(num(1))) != 0 || len(syntax.Calls(name("a"))) != 0 || len(slices.Collect(syntax.Refs(name("a")))) != 0 {
		t.Error("a term without any")
	}
	// a term stands ahead of its Args, whatever it is
	outer := api.Term{Op: api.NName, Name: "b", Args: []api.Term{name("a"), name("b")}}
	if got := syntax.Names(outer); !slices.Equal(got, []string{"b", "a"}) {
		t.Errorf("Names: %q", got)
	}
	d := draws(8)
	for range 3000 {
		sound := d.term(d.below(30))
		checkWalks(t, sound)
		checkWalks(t, d.soiled(sound))
	}
}

// P13.3, R3: Refs is left at each reference and gone over again, as if it had not been.
func TestRefsLeft(t *testing.T) {
	for _, x := range []api.Term{several(), call("F", several(), several()), num(1), ref(".A1"), {}} {
		whole := modelRefs(x)
		seq := syntax.Refs(x)
		for stop := range len(whole) + 1 {
			n := 0
			for r := range seq {
				if r != whole[n] {
					t.Errorf("Refs(%s), %d: %v", told(x), n, r)
				}
				if n++; n > stop {
					break
				}
			}
			if n != min(stop+1, len(whole)) {
				t.Errorf("Refs(%s), left at %d: %d", told(x), stop, n)
			}
		}
		for range 3 {
			if again := slices.Collect(seq); !slices.Equal(again, whole) {
				t.Errorf("Refs(%s) again: %v", told(x), again)
			}
		}
		pairs := 0
		for a := range seq {
			for b := range seq {
				if a != whole[pairs/len(whole)] || b != whole[pairs%len(whole)] {
					t.Errorf("Refs(%s) nested: %v, %v", told(x), a, b)
				}
				pairs++
			}
		}
		if pairs != len(whole)*len(whole) {
			t.Errorf("Refs(%s) nested: %d", told(x), pairs)
		}
	}
}

// Refs passes on a panic of the loop that goes over it, and can be gone over again.
func TestRefsThrown(t *testing.T) {
	seq := syntax.Refs(several())
	func() {
		defer func() {
			if recover() != "mine" {
				t.Error("the panic was caught")
			}
		}()
		for range seq {
			panic("mine")
		}
	}()
	if got := slices.Collect(seq); len(got) != 4 {
		t.Errorf("%d references", len(got))
	}
}
