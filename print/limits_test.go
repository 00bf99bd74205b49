package print_test

import (
	"math"
	"strings"
	"testing"

	"gridiron/api"
	"gridiron/print"
	"gridiron/syntax"
)

// wantEdge holds a term whose own text has so many bytes against what both faces answer at their limits.
func wantEdge(t *testing.T, x api.Term, bytes int) {
	t.Helper()
	if bytes > api.MaxFormula-1 {
		wantNone(t, x, api.ErrLong)
		return
	}
	if formula := wantBack(t, x); len(formula) != bytes+1 {
		t.Errorf("%d bytes of %s, want %d", len(formula), short(formula), bytes+1)
	}
}

// P14.2: as long as there may be, and one byte more, with each kind of term at the end, at the front and in the middle.
func TestLength(t *testing.T) {
	leaves := everyLeaf()
	for _, s := range everySign() {
		x, said := inner(s)
		leaves = append(leaves, leaf{op(api.NPer, x), fence(said, s.level < 6) + "%"}, leaf{call("F", x, miss()), "F(" + said + ";)"})
	}
	for _, x := range leaves {
		for more := -5; more <= 2; more++ {
			bytes := api.MaxFormula - 1 + more
			// & and two quotes beside what the text says
			pad := text(strings.Repeat("a", bytes-len(x.text)-3))
			wantEdge(t, op(api.NUnion, pad, call("F", x.term)), bytes+3)
			wantEdge(t, op(api.NCat, pad, x.term), bytes)
			wantEdge(t, op(api.NCat, x.term, pad), bytes)
			wantEdge(t, op(api.NCat, pad, op(api.NCat, num(1), x.term)), bytes+4)
			wantEdge(t, call("F", pad, x.term), bytes+3)
			wantEdge(t, array(2, pad, text(x.text)), bytes+4+strings.Count(x.text, `"`))
		}
	}
}

// P14.2: the limits of the two faces, by one text: Formula's with its =, Term's without.
func TestLengthFaces(t *testing.T) {
	for _, c := range []string{"a", "é", " ", "\n"} {
		said := strings.Repeat(c, (api.MaxFormula-3)/len(c))
		said += strings.Repeat("x", api.MaxFormula-3-len(said))
		x := text(said)
		if got, errno := print.Formula(x); got != `="`+said+`"` || len(got) != api.MaxFormula || errno != api.OK {
			t.Errorf("Formula: %d bytes, %d", len(got), errno)
		}
		if got, errno := print.Term(x); got != `"`+said+`"` || len(got) != api.MaxFormula-1 || errno != api.OK {
			t.Errorf("Term: %d bytes, %d", len(got), errno)
		}
		wantNone(t, text(said+"x"), api.ErrLong)
		wantNone(t, text(said+"xx"), api.ErrLong)
	}
	// a quote counts twice
	quotes := strings.Repeat(`"`, (api.MaxFormula-3)/2)
	wantEdge(t, text(quotes), 2+2*len(quotes))
	wantEdge(t, text(quotes+"a"), 3+2*len(quotes))
	wantEdge(t, text(quotes+`"`), 4+2*len(quotes))
}

// P14.2: of terms of many parts, too, the first byte too many is told.
func TestLengthMany(t *testing.T) {
	for extra := range 16 {
		// noughts by which each length comes up
		end := num(math.Pow(10, float64(extra)))
		items := func(rows int) []api.Term { return append(times(3*rows-1, num(1)), end) }
		wantEdge(t, array(1363, items(1363)...), 1+6*1363+extra)
		wantEdge(t, call("F", array(1352, items(1352)...), call("G", times(api.MaxArgs, num(1))...), miss()), 1+6*1352+extra+8+2*api.MaxArgs-1)
		wantEdge(t, call("F", miss(), call("G", times(api.MaxArgs, miss())...), array(1357, items(1357)...)), 1+6*1357+extra+8+api.MaxArgs-1)
	}
	wide := nested(3, num(1), func(x api.Term) api.Term { return call("F", times(api.MaxArgs, x)...) })
	wantNone(t, wide, api.ErrLong)
	wantNone(t, nested(1, wide, func(x api.Term) api.Term { return call("F", times(api.MaxArgs, x)...) }), api.ErrLong)
}

// P14.3: a formula that is read may say a term whose own text is too long.
func TestLongerThanRead(t *testing.T) {
	row := "F(" + strings.Repeat("1e20;", api.MaxArgs-1) + "1e20)"
	all := "=F(" + strings.Repeat(row+";", api.MaxArgs-1) + row + ")"
	x, _, errno := syntax.Parse(all)
	if errno != api.OK || !syntax.Check(x) {
		t.Fatalf("Parse: %d", errno)
	}
	wantNone(t, x, api.ErrLong)
}

// P14.3, P13.4: as deep as there may be by each way, and one more.
func TestDepth(t *testing.T) {
	edge := func(most int, way func(api.Term) api.Term) {
		t.Helper()
		for n := most - 1; n <= most; n++ {
			x := nested(n, num(1), way)
			formula := wantBack(t, x)
			around, calls := pairs(formula)
			if all := append(around, calls...); len(all) > 0 {
				wantOther(t, without(formula, all[0]), x)
				wantOther(t, without(formula, all[len(all)-1]), x)
				wantOther(t, without(formula, all...), x)
			}
		}
		wantNone(t, nested(most+1, num(1), way), api.ErrPrint)
		wantNone(t, nested(most+2, num(1), way), api.ErrPrint)
	}
	last := api.MaxDepth - 1
	edge(last, func(x api.Term) api.Term { return call("F", x) })
	edge(last, func(x api.Term) api.Term { return call("F", miss(), x, miss()) })
	for _, s := range signsOf(1) {
		edge(last, s.of)
	}
	// within a - there are parentheses, too, and a % goes one deeper
	edge(last/2, func(x api.Term) api.Term { return op(api.NNeg, op(api.NPer, x)) })
	for _, s := range signsOf(2) {
		edge(last, s.of)
		edge(last/2+1, func(x api.Term) api.Term { return op(s.op, num(1), x) })
		for _, out := range everySign() {
			if s.level < out.level && out.level != 7 {
				// each goes deeper by its parentheses alone, the last one by what stands behind its operator, too
				edge(last-1, func(x api.Term) api.Term { return out.of(op(s.op, x, num(1))) })
			}
		}
	}
	// at the greatest depth there stands what goes no deeper
	for _, x := range everyLeaf() {
		deep := nested(last, num(1), func(x api.Term) api.Term { return op(api.NAdd, x, num(1)) })
		deep.Args[1] = x.term
		if x.term.Op == api.NCall && len(x.term.Args) == 1 {
			wantNone(t, deep, api.ErrPrint)
		} else {
			want(t, deep, strings.Repeat("1+", last)+x.text)
		}
	}
}

// P14.3: parentheses that need not stand make what is read less deep than its one text, which there is not.
func TestDeeperThanRead(t *testing.T) {
	for _, s := range signsOf(2) {
		row := strings.Repeat("1"+s.text, 40) + "1"
		x, _, errno := syntax.Parse("=(" + row + ")" + strings.Repeat(s.text+"1", 40))
		if errno != api.OK || syntax.Count(x) != 161 {
			t.Errorf("Parse: %d", errno)
		}
		wantNone(t, x, api.ErrPrint)
		x, _, errno = syntax.Parse("=(" + row + ")" + strings.Repeat(s.text+"1", 23))
		if errno != api.OK {
			t.Errorf("Parse: %d", errno)
		}
		want(t, x, row+strings.Repeat(s.text+"1", 23))
	}
	signs := strings.Repeat("%", 40)
	x, _, _ := syntax.Parse("=(1" + signs + ")" + signs)
	wantNone(t, x, api.ErrPrint)
}
