package print_test

import (
	"math"
	"strings"
	"testing"

	"gridiron/api"
	"gridiron/syntax"
)

// everyBad are terms that no formula says, at least one for each thing that syntax.Check asks for.
func everyBad() []api.Term {
	out := []api.Term{
		{}, {Op: -1}, {Op: api.NCommon + 1}, {Op: math.MaxInt}, {Op: math.MinInt}, {Args: []api.Term{num(1), num(2)}}, {Op: 26, Args: []api.Term{num(1), num(2)}},
		num(math.Copysign(0, -1)), num(math.NaN()), num(math.Inf(1)), num(math.Inf(-1)),
		text("\x00"), text("\xff"), text("\uFFFE"), text(strings.Repeat("a", api.MaxText+1)),
		failure(0), failure(10), failure(-1), failure(math.MaxInt), failure(math.MinInt),
		ref(api.Ref{Fixed: true}), ref(api.Ref{Sheet: "a:b"}), ref(api.Ref{To: "T", Area: true}), ref(api.Ref{Sheet: "S", To: "T"}), ref(api.Ref{B: api.Corner{Row: 1}}),
		ref(api.Ref{A: api.Corner{Row: -1}}), ref(api.Ref{A: api.Corner{Col: api.MaxCols}}), ref(api.Ref{Area: true, B: api.Corner{Row: api.MaxRows}}),
		name(""), name("1"), name("a b"), name("é"), name("a("), name(strings.Repeat("n", api.MaxName+1)),
		call(""), call("f"), call("F "), call(strings.Repeat("N", api.MaxName+1)), call("F", miss()), call("F", times(api.MaxArgs+1, num(1))...), call("F", times(api.MaxArgs+1, miss())...),
		array(1), array(0, num(1)), array(-1, num(1)), array(2, num(1)), array(2, num(1), num(2), num(3)), array(math.MaxInt, num(1)), array(math.MinInt, num(1)),
		array(1, name("TRUE")), array(1, call("F")), array(1, call("true")), array(1, call("TRUE", num(1))), array(1, ref(api.Ref{})), array(1, miss()), array(1, array(1, num(1))), array(1, op(api.NNeg, num(1))),
		array(1, times(api.MaxArea+1, num(1))...),
		nested(api.MaxDepth, num(1), func(x api.Term) api.Term { return op(api.NNeg, x) }),
	}
	for _, s := range everySign() {
		for n := range 4 {
			if n != s.operands {
				out = append(out, op(s.op, times(n, num(1))...))
			}
		}
	}
	for _, x := range everyLeaf() {
		if x.term.Op != api.NCall && x.term.Op != api.NArray {
			more := x.term
			more.Args = []api.Term{num(1)}
			out = append(out, more)
		}
	}
	return append(out, everySoiled()...)
}

// everySoiled are terms with a field that their operations have not.
func everySoiled() []api.Term {
	fields := []func(*api.Term){
		func(x *api.Term) { x.Num = 1 }, func(x *api.Term) { x.Num = math.Copysign(0, -1) }, func(x *api.Term) { x.Text = "a" }, func(x *api.Term) { x.Err = 1 },
		func(x *api.Term) { x.Name = "A" }, func(x *api.Term) { x.Ref.Sheet = "S" }, func(x *api.Term) { x.Ref.A.AbsRow = true }, func(x *api.Term) { x.Rows = 1 },
	}
	own := map[int][]int{api.NNum: {0, 1}, api.NText: {2}, api.NErr: {3}, api.NName: {4}, api.NCall: {4}, api.NRef: {5, 6}, api.NArray: {7}}
	kinds := []api.Term{num(2), text("b"), failure(2), name("b"), call("B"), ref(api.Ref{Sheet: "T"}), array(1, num(1))}
	for _, s := range everySign() {
		kinds = append(kinds, s.of(num(2)))
	}
	var out []api.Term
	for _, kind := range kinds {
	each:
		for i, change := range fields {
			for _, j := range own[kind.Op] {
				if i == j {
					continue each
				}
			}
			x := copied(kind)
			change(&x)
			out = append(out, x)
		}
	}
	return out
}

// P14.2: what syntax.Check refuses, at the top, as an operand, as an argument and as an item, has no text.
func TestRefused(t *testing.T) {
	for _, x := range everyBad() {
		if syntax.Check(x) {
			t.Errorf("Check takes %s", told(x))
		}
		wantNone(t, x, api.ErrPrint)
		for _, s := range everySign() {
			wantNone(t, s.of(x), api.ErrPrint)
			if s.operands == 2 {
				wantNone(t, op(s.op, num(1), x), api.ErrPrint)
			}
		}
		wantNone(t, call("F", x), api.ErrPrint)
		wantNone(t, call("F", num(1), miss(), x), api.ErrPrint)
		wantNone(t, call("F", x, num(1)), api.ErrPrint)
		wantNone(t, array(1, x), api.ErrPrint)
		wantNone(t, array(2, num(1), num(2), num(3), x), api.ErrPrint)
		wantNone(t, op(api.NAdd, num(1), op(api.NPer, call("F", op(api.NMul, num(2), op(api.NNeg, x))))), api.ErrPrint)
	}
}

// P14.2: what may stand at one place and not at another.
func TestRefusedByPlace(t *testing.T) {
	wantNone(t, miss(), api.ErrPrint)
	wantNone(t, call("F", miss()), api.ErrPrint)
	wantNone(t, array(1, miss()), api.ErrPrint)
	want(t, call("F", num(1), miss()), "F(1;)")
	for _, s := range everySign() {
		for _, x := range []api.Term{miss(), num(-1), num(-math.SmallestNonzeroFloat64)} {
			wantNone(t, s.of(x), api.ErrPrint)
			wantNone(t, call("F", num(1), s.of(x)), api.ErrPrint)
		}
		wantNone(t, array(1, s.of(num(1))), api.ErrPrint)
	}
	wantNone(t, num(-1), api.ErrPrint)
	wantNone(t, call("F", num(-1), num(1)), api.ErrPrint)
	want(t, array(1, num(-1)), "{-1}")
	soiled := miss()
	soiled.Name = "a"
	wantNone(t, call("F", num(1), soiled), api.ErrPrint)
	wantNone(t, call("F", num(1), api.Term{Op: api.NMiss, Args: []api.Term{num(1)}}), api.ErrPrint)
	// nil and empty lists are the same
	want(t, api.Term{Op: api.NName, Name: "a", Args: []api.Term{}}, "a")
	want(t, api.Term{Op: api.NCall, Name: "F", Args: []api.Term{}}, "F()")
}

// P14.2: ErrPrint goes ahead of ErrLong, wherever it stands.
func TestRefusedAndLong(t *testing.T) {
	long := text(strings.Repeat("a", api.MaxFormula))
	wantNone(t, long, api.ErrLong)
	for _, x := range everyBad() {
		wantNone(t, op(api.NCat, long, x), api.ErrPrint)
		wantNone(t, op(api.NCat, x, long), api.ErrPrint)
		wantNone(t, call("F", long, long, x), api.ErrPrint)
		wantNone(t, array(1, long, long, x), api.ErrPrint)
	}
	wantNone(t, text(strings.Repeat("a", api.MaxText+1)), api.ErrPrint)
	wantNone(t, call("F", times(api.MaxArgs+1, long)...), api.ErrPrint)
	wantNone(t, call("F", times(api.MaxArgs, long)...), api.ErrLong)
	wantNone(t, nested(api.MaxDepth, long, func(x api.Term) api.Term { return op(api.NPer, x) }), api.ErrPrint)
	wantNone(t, nested(api.MaxDepth-1, long, func(x api.Term) api.Term { return op(api.NPer, x) }), api.ErrLong)
}
