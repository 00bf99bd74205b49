package print_test

import (
	"fmt"
	"strconv"
	"testing"

	"gridiron/api"
	"gridiron/print"
	"gridiron/syntax"
)

func num(x float64) api.Term { return api.Term{Op: api.NNum, Num: x} }

func text(s string) api.Term { return api.Term{Op: api.NText, Text: s} }

func failure(n int) api.Term { return api.Term{Op: api.NErr, Err: n} }

func ref(r api.Ref) api.Term { return api.Term{Op: api.NRef, Ref: r} }

func name(s string) api.Term { return api.Term{Op: api.NName, Name: s} }

func call(s string, args ...api.Term) api.Term { return api.Term{Op: api.NCall, Name: s, Args: args} }

func array(rows int, items ...api.Term) api.Term {
	return api.Term{Op: api.NArray, Rows: rows, Args: items}
}

func miss() api.Term { return api.Term{Op: api.NMiss} }

// op is an operator's term of one operand or two.
func op(op int, operands ...api.Term) api.Term { return api.Term{Op: op, Args: operands} }

// times is a term so many times one behind the other.
func times(n int, x api.Term) []api.Term {
	out := make([]api.Term, n)
	for i := range out {
		out[i] = x
	}
	return out
}

// nested is a term within so many others, as a way makes them.
func nested(n int, x api.Term, way func(api.Term) api.Term) api.Term {
	for range n {
		x = way(x)
	}
	return x
}

// copied is a term whose lists are its own, all the way down.
func copied(t api.Term) api.Term {
	args := make([]api.Term, len(t.Args))
	for i, x := range t.Args {
		args[i] = copied(x)
	}
	t.Args = args
	return t
}

// inside are a term and all terms in it.
func inside(t *api.Term) []*api.Term {
	out := []*api.Term{t}
	for i := range t.Args {
		out = append(out, inside(&t.Args[i])...)
	}
	return out
}

// told is a term for a report: its operation, what it has, and its Args.
func told(t api.Term) string {
	out := strconv.Itoa(t.Op)
	if own := fmt.Sprintf("<%v %s %d %s %v %d>", t.Num, short(t.Text), t.Err, short(t.Name), t.Ref, t.Rows); own != `<0 "" 0 "" {  false false {0 0 false false} {0 0 false false}} 0>` {
		out += own
	}
	for i, x := range t.Args {
		if i == 40 {
			out += " .. "
			break
		}
		out += []string{"(", ", "}[min(i, 1)] + told(x)
	}
	return out + map[bool]string{true: ")"}[len(t.Args) > 0]
}

// short is a text for a report.
func short(s string) string {
	if len(s) > 240 {
		return strconv.Quote(s[:120]) + " .. of " + strconv.Itoa(len(s)) + " bytes"
	}
	return strconv.Quote(s)
}

// want holds a term's text against what it should be, and what is read of it against the term (P14.3).
func want(t *testing.T, x api.Term, said string) {
	t.Helper()
	if got, errno := print.Term(x); got != said || errno != api.OK {
		t.Errorf("Term(%s): %s, %d, want %s", told(x), short(got), errno, short(said))
	}
	if got, errno := print.Formula(x); got != "="+said || errno != api.OK {
		t.Errorf("Formula(%s): %s, %d, want %s", told(x), short(got), errno, short("="+said))
	}
	wantRead(t, "="+said, x)
}

// wantRead holds what a formula says against a term.
func wantRead(t *testing.T, formula string, x api.Term) {
	t.Helper()
	if got, at, errno := syntax.Parse(formula); errno != api.OK || !syntax.Same(got, x) {
		t.Errorf("Parse(%s): %s, %d, %d, want %s", short(formula), told(got), at, errno, told(x))
	}
}

// wantNone holds both faces' answers for a term against an error without a text.
func wantNone(t *testing.T, x api.Term, errno api.Errno) {
	t.Helper()
	if got, e := print.Formula(x); got != "" || e != errno {
		t.Errorf("Formula(%s): %s, %d, want %d", told(x), short(got), e, errno)
	}
	if got, e := print.Term(x); got != "" || e != errno {
		t.Errorf("Term(%s): %s, %d, want %d", told(x), short(got), e, errno)
	}
}

// wantBack holds a term against what is read of its formula, which it answers.
func wantBack(t *testing.T, x api.Term) string {
	t.Helper()
	formula, errno := print.Formula(x)
	if errno != api.OK {
		t.Errorf("Formula(%s): %d", told(x), errno)
		return ""
	}
	wantRead(t, formula, x)
	if term, errno := print.Term(x); "="+term != formula || errno != api.OK {
		t.Errorf("Term(%s): %s, %d, but the formula is %s", told(x), short(term), errno, short(formula))
	}
	return formula
}

// sign is an operator.
type sign struct {
	op       int
	text     string
	level    int
	operands int
}

// everySign are the operators, as P14.1 tells them.
func everySign() []sign {
	return []sign{
		{api.NPlus, "+", 7, 1}, {api.NNeg, "-", 7, 1}, {api.NPer, "%", 6, 1}, {api.NPow, "^", 5, 2},
		{api.NMul, "*", 4, 2}, {api.NDiv, "/", 4, 2}, {api.NAdd, "+", 3, 2}, {api.NSub, "-", 3, 2}, {api.NCat, "&", 2, 2},
		{api.NEq, "=", 1, 2}, {api.NNe, "<>", 1, 2}, {api.NLt, "<", 1, 2}, {api.NLe, "<=", 1, 2}, {api.NGt, ">", 1, 2}, {api.NGe, ">=", 1, 2},
		{api.NUnion, "~", 8, 2}, {api.NCommon, "!", 9, 2},
	}
}

// signsOf are the operators of one operand, or of two.
func signsOf(operands int) []sign {
	var out []sign
	for _, s := range everySign() {
		if s.operands == operands {
			out = append(out, s)
		}
	}
	return out
}

// of is an operator's term with an operand, beside a name, if it has two.
func (s sign) of(x api.Term) api.Term {
	if s.operands == 1 {
		return op(s.op, x)
	}
	return op(s.op, x, name("z"))
}

// leaf is a term that is no operator's, with its text.
type leaf struct {
	term api.Term
	text string
}

func everyLeaf() []leaf {
	corner := api.Corner{Row: 1, Col: 1}
	return []leaf{
		{num(0), "0"}, {num(1.5), "1.5"}, {num(1e300), "1E300"}, {text(""), `""`}, {text(`a"(`), `"a""("`}, {failure(api.ENA), "#N/A"}, {failure(api.ENull), "#NULL!"},
		{ref(api.Ref{}), "[.A1]"}, {ref(api.Ref{Sheet: "x y", Area: true, B: corner}), "['x y'.A1:.B2]"}, {name("e5"), "e5"}, {name("TRUE"), "TRUE"},
		{call("F"), "F()"}, {call("F", num(1)), "F(1)"}, {call("F", miss(), miss()), "F(;)"}, {array(1, num(1)), "{1}"}, {array(2, num(-1), call("TRUE")), "{-1|TRUE}"},
	}
}
