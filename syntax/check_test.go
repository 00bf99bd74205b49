package syntax_test

import (
	"math"
	"strings"
	"testing"

	"gridiron/api"
	"gridiron/syntax"
)

func wantCheck(t *testing.T, x api.Term, want bool) {
	t.Helper()
	if got := syntax.Check(x); got != want {
		t.Errorf("Check(%s): %v", told(x), got)
	}
}

// sample are terms that may be, one of each operation at the least.
func sample() []api.Term {
	out := []api.Term{
		num(0), num(1.5), text(""), text(`a"b`), failure(1), failure(9), ref(".A1"), ref("$'x y'.$A$1:T.B2"), name("a"), name("TRUE"),
		call("F"), call("F", num(1)), call("F", miss(), miss()), call("F.X_1", name("a"), miss(), num(2)),
		array(1, num(1)), array(2, num(-1), text("a"), failure(7), call("TRUE"), call("FALSE"), num(0)),
		op(api.NPlus, num(1)), op(api.NNeg, name("a")), op(api.NPer, ref(".A1")),
	}
	for _, s := range everyBetween() {
		out = append(out, op(s.op, name("a"), num(2)))
	}
	return out
}

// with is a term with one field that is no longer as it was.
func with(t api.Term, change func(*api.Term)) api.Term {
	t = deepCopy(t)
	change(&t)
	return t
}

// P13.2: what may be by itself, as an operand, an argument, and in parentheses.
func TestCheckSample(t *testing.T) {
	for _, x := range sample() {
		if !modelCheck(x) {
			t.Errorf("the model refuses %s", told(x))
		}
		wantCheck(t, x, true)
		for _, other := range sample() {
			if len(other.Args) == 0 || other.Op == api.NArray {
				continue
			}
			for i := range other.Args {
				within := with(other, func(y *api.Term) { y.Args[i] = x })
				wantCheck(t, within, true)
			}
		}
	}
}

// P13.2: each field that counts for nothing is zero, of a term by itself and within others; a Num is no -0 either.
func TestCheckFields(t *testing.T) {
	kinds := map[string][]int{
		"num": {api.NNum}, "text": {api.NText}, "err": {api.NErr}, "ref": {api.NRef}, "name": {api.NName, api.NCall}, "rows": {api.NArray},
	}
	changes := map[string][]func(*api.Term){
		"num":  {func(x *api.Term) { x.Num = 1 }, func(x *api.Term) { x.Num = math.Copysign(0, -1) }, func(x *api.Term) { x.Num = math.NaN() }, func(x *api.Term) { x.Num = math.Inf(-1) }},
		"text": {func(x *api.Term) { x.Text = "a" }, func(x *api.Term) { x.Text = "\x00" }},
		"err":  {func(x *api.Term) { x.Err = 1 }, func(x *api.Term) { x.Err = -1 }},
		"ref":  {func(x *api.Term) { x.Ref.Sheet = "a" }, func(x *api.Term) { x.Ref.To = "a" }, func(x *api.Term) { x.Ref.Fixed = true }, func(x *api.Term) { x.Ref.Area = true }, func(x *api.Term) { x.Ref.A.Row = 1 }, func(x *api.Term) { x.Ref.A.AbsCol = true }, func(x *api.Term) { x.Ref.B.Col = 1 }},
		"name": {func(x *api.Term) { x.Name = "a" }, func(x *api.Term) { x.Name = "A" }},
		"rows": {func(x *api.Term) { x.Rows = 1 }, func(x *api.Term) { x.Rows = -1 }},
	}
	whole := append(sample(), call("F", num(1), op(api.NAdd, op(api.NAdd, name("b"), op(api.NPer, op(api.NPer, num(2)))), array(1, num(3))), miss()))
	for _, sound := range whole {
		n := len(places(&sound))
		for at := range n {
			for field, all := range changes {
				for _, change := range all {
					bad := deepCopy(sound)
					x := places(&bad)[at]
					counts := false
					for _, op := range kinds[field] {
						counts = counts || op == x.Op
					}
					if counts {
						continue
					}
					change(x)
					wantCheck(t, bad, false)
					if modelCheck(bad) {
						t.Errorf("the model takes %s", told(bad))
					}
				}
			}
		}
	}
}

// P13.2: too few and too many Args at each place.
func TestCheckArgs(t *testing.T) {
	whole := append(sample(), op(api.NAdd, op(api.NAdd, op(api.NAdd, num(1), num(2)), op(api.NPer, op(api.NPer, num(2)))), op(api.NNeg, op(api.NNeg, num(3)))))
	for _, sound := range whole {
		for at := range places(&sound) {
			x := places(&sound)[at]
			if x.Op == api.NCall {
				if at > 0 {
					// of an array
					wantCheck(t, with(sound, func(y *api.Term) { z := places(y)[at]; z.Args = []api.Term{num(1)} }), false)
				}
				continue
			}
			wantCheck(t, with(sound, func(y *api.Term) { z := places(y)[at]; z.Args = append(z.Args, num(1)) }), x.Op == api.NArray && x.Rows == 1)
			if len(x.Args) > 0 {
				for left := range len(x.Args) {
					less := with(sound, func(y *api.Term) { z := places(y)[at]; z.Args = z.Args[:left] })
					wantCheck(t, less, x.Op == api.NArray && left > 0 && left%x.Rows == 0)
				}
			}
		}
	}
	full := call("F")
	for range api.MaxArgs {
		full.Args = append(full.Args, num(1))
	}
	wantCheck(t, full, true)
	full.Args = append(full.Args, num(1))
	wantCheck(t, full, false)
	full.Args[3] = miss()
	wantCheck(t, full, false)
	wantCheck(t, op(api.NNeg, full), false)
	full.Args = full.Args[1:]
	wantCheck(t, full, true)
}

// P13.2: numbers in and out of arrays.
func TestCheckNumbers(t *testing.T) {
	for x, outside := range map[float64]bool{0: true, 1: true, 0.1: true, math.MaxFloat64: true, math.SmallestNonzeroFloat64: true, -1: false, -math.MaxFloat64: false, -math.SmallestNonzeroFloat64: false} {
		wantCheck(t, num(x), outside)
		wantCheck(t, op(api.NAdd, num(1), num(x)), outside)
		wantCheck(t, op(api.NAdd, num(x), num(1)), outside)
		wantCheck(t, op(api.NNeg, num(x)), outside)
		wantCheck(t, call("F", num(x)), outside)
		wantCheck(t, array(1, num(x)), true)
		wantCheck(t, array(2, num(1), num(x)), true)
	}
	for _, x := range []float64{math.Copysign(0, -1), math.NaN(), -math.NaN(), math.Float64frombits(math.Float64bits(math.NaN()) | 1<<63), math.Inf(1), math.Inf(-1)} {
		wantCheck(t, num(x), false)
		wantCheck(t, op(api.NAdd, num(1), num(x)), false)
		wantCheck(t, array(1, num(x)), false)
		wantCheck(t, array(2, num(1), num(x)), false)
	}
}

// P13.2: texts, errors, references, names and functions' names that may not be.
func TestCheckTokens(t *testing.T) {
	long := strings.Repeat("a", api.MaxText)
	for s, may := range map[string]bool{"": true, "\"'[#": true, "\t\n\r": true, "\uFFFD\U0010FFFF": true, long: true, long + "a": false, strings.Repeat(`"`, api.MaxText): true, "\x00": false, "\x1f": false, "\xff": false, "\xc3": false, "\uFFFE": false, "\xed\xa0\x80": false} {
		wantCheck(t, text(s), may)
		wantCheck(t, array(1, text(s)), may)
		wantCheck(t, op(api.NCat, text("a"), text(s)), may)
	}
	for n := -2; n < 13; n++ {
		wantCheck(t, failure(n), 1 <= n && n <= 9)
		wantCheck(t, array(1, failure(n)), 1 <= n && n <= 9)
	}
	wantCheck(t, failure(math.MaxInt), false)
	wantCheck(t, failure(math.MinInt), false)
	corner := api.Corner{Row: api.MaxRows - 1, Col: api.MaxCols - 1, AbsRow: true}
	for r, may := range map[api.Ref]bool{
		{}: true, {A: corner}: true, {Area: true, A: corner}: true, {Sheet: "é", To: "x y", Fixed: true, Area: true, B: corner}: true,
		{A: api.Corner{Row: -1}}: false, {A: api.Corner{Row: api.MaxRows}}: false, {A: api.Corner{Col: api.MaxCols}}: false, {B: api.Corner{Row: 1}}: false, {Area: true, B: api.Corner{Col: -1}}: false,
		{Fixed: true}: false, {To: "a", Area: true}: false, {Sheet: "a", To: "b"}: false, {Sheet: "a:b"}: false, {Sheet: "\xff"}: false, {Sheet: strings.Repeat("s", api.MaxName+1)}: false,
	} {
		wantCheck(t, api.Term{Op: api.NRef, Ref: r}, may)
		wantCheck(t, op(api.NUnion, ref(".A1"), api.Term{Op: api.NRef, Ref: r}), may)
		wantCheck(t, array(1, api.Term{Op: api.NRef, Ref: r}), false)
	}
	most := strings.Repeat("N", api.MaxName)
	for s, may := range map[string][2]bool{"": {}, "a": {true, false}, "A": {true, true}, "_": {true, true}, "A.9_": {true, true}, "Ab": {true, false}, "TRUE": {true, true}, "true": {true, false}, most: {true, true}, most + "N": {}, "1": {}, ".A": {}, "A B": {}, "É": {}, "é": {}, "A\x00": {}, "A(": {}, " A": {}, "A;": {}, "İ": {}, "\xff": {}} {
		wantCheck(t, name(s), may[0])
		wantCheck(t, call(s), may[1])
		wantCheck(t, call(s, num(1)), may[1])
		wantCheck(t, op(api.NNeg, call(s, num(1), name(s))), may[0] && may[1])
		wantCheck(t, array(1, call(s)), s == "TRUE")
		wantCheck(t, array(1, name(s)), false)
	}
}

// P13.2: NMiss stands as an argument of a call that has two or more, and nowhere else.
func TestCheckMiss(t *testing.T) {
	wantCheck(t, miss(), false)
	wantCheck(t, call("F", miss()), false)
	wantCheck(t, call("F", miss(), miss()), true)
	wantCheck(t, call("F", num(1), miss()), true)
	wantCheck(t, call("F", miss(), num(1)), true)
	wantCheck(t, call("F", num(1), miss(), num(1)), true)
	wantCheck(t, call("F", call("F", miss())), false)
	wantCheck(t, call("F", call("F", miss(), miss())), true)
	wantCheck(t, array(1, miss()), false)
	wantCheck(t, array(1, num(1), miss()), false)
	for _, x := range []int{api.NPlus, api.NNeg, api.NPer} {
		wantCheck(t, op(x, miss()), false)
		wantCheck(t, call("F", op(x, miss()), num(1)), false)
	}
	for _, s := range everyBetween() {
		wantCheck(t, op(s.op, miss(), num(1)), false)
		wantCheck(t, op(s.op, num(1), miss()), false)
		wantCheck(t, call("F", op(s.op, num(1), miss()), num(1)), false)
	}
	wantCheck(t, call("F", api.Term{Op: api.NMiss, Args: []api.Term{num(1)}}, num(1)), false)
	wantCheck(t, call("F", api.Term{Op: api.NMiss, Args: []api.Term{}}, num(1)), true)
}

// P13.2: arrays of 1 to MaxArea items in equal rows.
func TestCheckArrays(t *testing.T) {
	for n := range 13 {
		for rows := -2; rows < 15; rows++ {
			x := array(rows)
			for range n {
				x.Args = append(x.Args, num(-3))
			}
			wantCheck(t, x, n > 0 && rows > 0 && n%rows == 0)
		}
	}
	full := array(1)
	for range api.MaxArea {
		full.Args = append(full.Args, call("TRUE"))
	}
	for rows, may := range map[int]bool{1: true, 2: true, 3: false, api.MaxArea: true, api.MaxArea + 1: false, math.MaxInt: false, math.MinInt: false, -api.MaxArea: false} {
		full.Rows = rows
		wantCheck(t, full, may)
	}
	full.Rows = 1
	full.Args = append(full.Args, call("TRUE"))
	wantCheck(t, full, false)
	full.Rows = api.MaxArea + 1
	wantCheck(t, full, false)
	for _, x := range sample() {
		truth := x.Op == api.NCall && (x.Name == "TRUE" || x.Name == "FALSE")
		may := x.Op == api.NNum || x.Op == api.NText || x.Op == api.NErr || truth
		wantCheck(t, array(1, x), may)
		wantCheck(t, array(2, num(1), num(2), num(3), x), may)
	}
	wantCheck(t, array(1, array(1, num(1))), false)
}

// P13.2: operations that there are not.
func TestCheckOps(t *testing.T) {
	for _, o := range []int{math.MinInt, -1, 0, 26, 27, 100, math.MaxInt} {
		for _, args := range [][]api.Term{nil, {num(1)}, {num(1), num(2)}} {
			x := op(o, args...)
			wantCheck(t, x, false)
			wantCheck(t, op(api.NNeg, x), false)
			wantCheck(t, op(api.NPer, x), false)
			wantCheck(t, op(api.NAdd, x, num(1)), false)
			wantCheck(t, op(api.NAdd, num(1), x), false)
			wantCheck(t, call("F", x), false)
			wantCheck(t, array(1, x), false)
		}
	}
	wantCheck(t, api.Term{}, false)
}

// nested is a term within so many others, as a way makes them.
func nested(n int, x api.Term, way func(api.Term) api.Term) api.Term {
	for range n {
		x = way(x)
	}
	return x
}

// P13.2: the depth's edge, with the parentheses that the grammar needs.
func TestCheckDepth(t *testing.T) {
	edge := func(what string, most int, way func(api.Term) api.Term) {
		t.Helper()
		for n := most - 2; n <= most+2; n++ {
			x := nested(n, num(1), way)
			if got := syntax.Check(x); got != (n <= most) || got != modelCheck(x) {
				t.Errorf("%s, %d times: %v, the model %v", what, n, got, modelCheck(x))
			}
		}
	}
	last := api.MaxDepth - 1
	edge("calls", last, func(x api.Term) api.Term { return call("F", x) })
	edge("calls with missing arguments", last, func(x api.Term) api.Term { return call("F", miss(), x, miss()) })
	edge("signs", last, func(x api.Term) api.Term { return op(api.NNeg, x) })
	edge("other signs", last, func(x api.Term) api.Term { return op(api.NPlus, x) })
	edge("%", last, func(x api.Term) api.Term { return op(api.NPer, x) })
	edge("- of %", last/2, func(x api.Term) api.Term { return op(api.NNeg, op(api.NPer, x)) })
	for _, s := range everyBetween() {
		edge(s.text+" to the left", last, func(x api.Term) api.Term { return op(s.op, x, name("a")) })
		// the first of these, whose second operand is a number, needs no parentheses
		edge(s.text+" to the right", last/2+1, func(x api.Term) api.Term { return op(s.op, name("a"), x) })
		for _, other := range everyBetween() {
			both := func(x api.Term) api.Term { return op(s.op, op(other.op, x, name("a")), name("b")) }
			mixed := func(x api.Term) api.Term { return op(s.op, name("b"), op(other.op, x, name("a"))) }
			signed := func(x api.Term) api.Term { return op(s.op, op(api.NNeg, op(other.op, name("a"), x)), name("b")) }
			for _, way := range []func(api.Term) api.Term{both, mixed, signed} {
				most := 0
				for most < api.MaxDepth && syntax.Check(nested(most+1, num(1), way)) {
					most++
				}
				if !modelCheck(nested(most, num(1), way)) || modelCheck(nested(most+1, num(1), way)) || syntax.Check(nested(most+2, num(1), way)) {
					t.Errorf("%s and %s, %d times", s.text, other.text, most)
				}
			}
		}
	}
	// what goes no deeper
	deep := nested(last, num(1), func(x api.Term) api.Term { return op(api.NAdd, x, name("a")) })
	for _, x := range []api.Term{call("F"), call("F", miss(), miss()), array(2, num(1), num(2)), text("a"), ref(".A1")} {
		wantCheck(t, with(deep, func(y *api.Term) { y.Args[1] = x }), true)
	}
	for _, x := range []api.Term{call("F", num(1)), call("F", miss(), num(1)), op(api.NNeg, num(1)), op(api.NPer, num(1)), op(api.NMul, num(1), num(2)), op(api.NAdd, num(1), num(2)), op(api.NCat, num(1), num(2)), op(api.NUnion, num(1), num(2))} {
		wantCheck(t, with(deep, func(y *api.Term) { y.Args[1] = x }), false)
	}
}

// P13.2, P13.4: drawn terms, sound and soiled, are taken just when their text is read as them; Parse's answers are taken.
func TestCheckDrawn(t *testing.T) {
	d := draws(7)
	seen := map[bool]int{}
	for range 8000 {
		sound := d.term(d.below([]int{3, 10, 30}[d.below(3)]))
		for _, x := range []api.Term{sound, d.soiled(sound), d.soiled(sound)} {
			want := modelCheck(x)
			wantCheck(t, x, want)
			seen[want]++
			back, _, errno := syntax.Parse("=" + written(x))
			if want && (errno != api.OK || !syntax.Same(back, x)) {
				t.Errorf("Parse(%s): %s, %d, want %s", short(written(x)), told(back), errno, told(x))
			}
			if errno == api.OK && !syntax.Check(back) {
				t.Errorf("Check of what Parse answers for %s", short(written(x)))
			}
		}
	}
	if seen[true] < 8000 || seen[false] < 4000 {
		t.Errorf("drawn: %v", seen)
	}
}
