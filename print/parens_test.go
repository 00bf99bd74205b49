package print_test

import (
	"strings"
	"testing"

	"gridiron/api"
	"gridiron/print"
	"gridiron/syntax"
)

// fence is a text, in parentheses if it needs them.
func fence(s string, needs bool) string {
	if needs {
		return "(" + s + ")"
	}
	return s
}

// inner is an operator's term as an operand, with its text.
func inner(s sign) (api.Term, string) {
	switch {
	case s.operands == 2:
		return op(s.op, name("a"), name("b")), "a" + s.text + "b"
	case s.op == api.NPer:
		return op(s.op, name("a")), "a" + s.text
	}
	return op(s.op, name("a")), s.text + "a"
}

// P14.2: each operator as the first and as the second operand of each, and with each prefix sign and %.
func TestParentheses(t *testing.T) {
	for _, in := range everySign() {
		x, said := inner(in)
		for _, out := range signsOf(2) {
			want(t, op(out.op, x, name("c")), fence(said, in.level < out.level)+out.text+"c")
			want(t, op(out.op, name("c"), x), "c"+out.text+fence(said, in.level <= out.level))
			want(t, op(out.op, x, x), fence(said, in.level < out.level)+out.text+fence(said, in.level <= out.level))
		}
		want(t, op(api.NPlus, x), "+"+fence(said, in.level < 7))
		want(t, op(api.NNeg, x), "-"+fence(said, in.level < 7))
		want(t, op(api.NPer, x), fence(said, in.level < 6)+"%")
	}
}

// P14.2: some of them, letter by letter.
func TestParenthesesPlain(t *testing.T) {
	a, b, c := name("a"), name("b"), name("c")
	neg := func(x api.Term) api.Term { return op(api.NNeg, x) }
	per := func(x api.Term) api.Term { return op(api.NPer, x) }
	want(t, op(api.NAdd, op(api.NMul, a, b), op(api.NDiv, b, c)), "a*b+b/c")
	want(t, op(api.NMul, op(api.NAdd, a, b), op(api.NSub, b, c)), "(a+b)*(b-c)")
	want(t, op(api.NSub, op(api.NAdd, a, b), c), "a+b-c")
	want(t, op(api.NSub, a, op(api.NAdd, b, c)), "a-(b+c)")
	want(t, op(api.NEq, op(api.NNe, a, b), op(api.NLt, b, c)), "a<>b=(b<c)")
	want(t, op(api.NCat, op(api.NEq, a, b), op(api.NAdd, b, c)), "(a=b)&b+c")
	want(t, op(api.NUnion, op(api.NCommon, a, b), op(api.NCommon, b, c)), "a!b~b!c")
	want(t, op(api.NCommon, op(api.NUnion, a, b), op(api.NUnion, b, c)), "(a~b)!(b~c)")
	want(t, op(api.NUnion, neg(a), per(b)), "(-a)~(b%)")
	want(t, op(api.NPow, neg(a), neg(b)), "-a^-b")
	want(t, neg(op(api.NUnion, a, b)), "-a~b")
	want(t, op(api.NSub, a, neg(b)), "a--b")
	want(t, op(api.NSub, neg(a), op(api.NPlus, b)), "-a-+b")
	want(t, per(neg(a)), "-a%")
	want(t, neg(per(a)), "-(a%)")
	want(t, per(per(per(a))), "a%%%")
	want(t, neg(op(api.NPlus, neg(a))), "-+-a")
	want(t, per(op(api.NPow, a, b)), "(a^b)%")
	want(t, op(api.NPow, per(a), per(b)), "a%^b%")
	want(t, op(api.NLt, a, op(api.NGt, b, c)), "a<(b>c)")
	want(t, call("F", op(api.NMul, op(api.NAdd, a, b), c), op(api.NEq, a, b)), "F((a+b)*c;a=b)")
}

// P14.2: rows of one operator to the left and to the right.
func TestRows(t *testing.T) {
	for _, s := range signsOf(2) {
		for n := 1; n < 30; n++ {
			left := nested(n, name("a"), func(x api.Term) api.Term { return op(s.op, x, num(1)) })
			want(t, left, "a"+strings.Repeat(s.text+"1", n))
			right := nested(n, name("a"), func(x api.Term) api.Term { return op(s.op, num(1), x) })
			want(t, right, strings.Repeat("1"+s.text+"(", n-1)+"1"+s.text+"a"+strings.Repeat(")", n-1))
		}
	}
}

// everyWay are the ways in which an operand stands in an operator's term.
func everyWay() []func(api.Term) api.Term {
	var out []func(api.Term) api.Term
	for _, s := range everySign() {
		out = append(out, s.of)
		if s.operands == 2 {
			out = append(out, func(x api.Term) api.Term { return op(s.op, num(1), x) })
		}
	}
	return out
}

// P14.3, P14.4, P14.5 and P14.2: three operators within one another, in all ways.
func TestEveryThree(t *testing.T) {
	ways := everyWay()
	texts := map[string]struct{}{}
	n := 0
	for i, first := range ways {
		for j, second := range ways {
			for k, third := range ways {
				x := first(second(third(name("a"))))
				formula := wantBack(t, x)
				texts[formula] = struct{}{}
				n++
				if (i+j+k)%7 == 0 && formula != "="+modelTerm(x) {
					t.Errorf("Formula(%s): %s, want %s", told(x), formula, modelTerm(x))
				}
				wantNeeded(t, formula, x)
			}
		}
	}
	if n != 29791 || len(texts) != n {
		t.Errorf("%d terms have %d texts", n, len(texts))
	}
}

// P14.2, P14.5: two operands that are operators' themselves, in all ways.
func TestEveryTwoOperands(t *testing.T) {
	for _, out := range signsOf(2) {
		for _, left := range everySign() {
			for _, right := range everySign() {
				x := op(out.op, left.of(name("a")), right.of(num(2)))
				formula := wantBack(t, x)
				if model := modelTerm(x); formula != "="+model {
					t.Errorf("Formula(%s): %s, want %s", told(x), formula, model)
				}
				wantNeeded(t, formula, x)
			}
		}
	}
}

// wantNeeded leaves out parentheses of a term's formula, some or all of them, and looks whether it is read otherwise (P14.5).
func wantNeeded(t *testing.T, formula string, x api.Term) {
	t.Helper()
	around, calls := pairs(formula)
	for _, p := range append(around, calls...) {
		wantOther(t, without(formula, p), x)
		// nothing in their place, not even a blank
		wantOther(t, formula[:p.from]+formula[p.from+1:p.to]+formula[p.to+1:], x)
	}
	if len(around) > 6 {
		wantOther(t, without(formula, around...), x)
		return
	}
	for some := 1; some < 1<<len(around); some++ {
		var left []pair
		for i, p := range around {
			if some>>i&1 == 1 {
				left = append(left, p)
			}
		}
		wantOther(t, without(formula, left...), x)
	}
}

func wantOther(t *testing.T, formula string, x api.Term) {
	t.Helper()
	if says(formula, x) {
		t.Errorf("%s is read as %s, too", short(formula), told(x))
	}
}

// P14.5: parentheses that stand in what is read, but are not needed, are not printed.
func TestParenthesesGo(t *testing.T) {
	for s, said := range map[string]string{
		"=(1)": "=1", "=((1+2))": "=1+2", "=(1*2)+3": "=1*2+3", "=1+(2*3)": "=1+2*3", "=(1-2)-3": "=1-2-3", "=(-1)^2": "=-1^2", "=-(-1)": "=--1", "=-(1)": "=-1",
		"=(1%)%": "=1%%", "=(-1)%": "=-1%", "=-([.A1]~[.B1])": "=-[.A1]~[.B1]", "=F((1);(a+b))": "=F(1;a+b)", "=(F(1))": "=F(1)", "=({1})": "={1}", "=(a)!(b)": "=a!b", "=a^(-b)": "=a^-b",
		"=1-(2-3)": "=1-(2-3)", "=-(1%)": "=-(1%)", "=((1+2)*(3))": "=(1+2)*3", "=(((1))+((2+3)))": "=1+(2+3)", "= ( sum ( 1 ) ) ": "=SUM(1)", `=("(")&(")")`: `="("&")"`,
	} {
		x, _, errno := syntax.Parse(s)
		if got, e := print.Formula(x); errno != api.OK || got != said || e != api.OK {
			t.Errorf("Formula of what %s says: %s, %d, want %s", s, got, e, said)
		}
	}
}
