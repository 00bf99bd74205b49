package print_test

import (
	"strings"

	"gridiron/api"
	"gridiron/lexis"
	"gridiron/number"
	"gridiron/refs"
	"gridiron/syntax"
	"gridiron/value"
)

// fenced is a term's text with each operand in parentheses, whether it needs them or not.
func fenced(t api.Term) string {
	for _, s := range everySign() {
		switch {
		case s.op != t.Op:
		case s.operands == 2:
			return "(" + fenced(t.Args[0]) + ")" + s.text + "(" + fenced(t.Args[1]) + ")"
		case s.op == api.NPer:
			return "(" + fenced(t.Args[0]) + ")" + s.text
		default:
			return s.text + "(" + fenced(t.Args[0]) + ")"
		}
	}
	switch t.Op {
	case api.NCall:
		var args []string
		for _, x := range t.Args {
			args = append(args, fenced(x))
		}
		return t.Name + "(" + strings.Join(args, ";") + ")"
	case api.NArray:
		var rows []string
		for width := len(t.Args) / t.Rows; len(t.Args) > 0; t.Args = t.Args[width:] {
			var items []string
			for _, x := range t.Args[:width] {
				items = append(items, plain(x)+x.Name)
			}
			rows = append(rows, strings.Join(items, ";"))
		}
		return "{" + strings.Join(rows, "|") + "}"
	}
	return plain(t) + t.Name
}

// plain is the text of a number, a text, an error or a reference.
func plain(t api.Term) string {
	out := ""
	switch t.Op {
	case api.NNum:
		out, _ = number.Text(t.Num)
	case api.NText:
		out, _ = lexis.Quote(t.Text)
	case api.NErr:
		out = value.ErrText(t.Err)
	case api.NRef:
		out, _ = refs.Text(t.Ref)
		out = "[" + out + "]"
	}
	return out
}

// pair are the places of two parentheses that belong together.
type pair struct {
	from, to int
}

// pairs are the parentheses of a formula, by their beginnings; those of calls are told by themselves.
func pairs(formula string) (around, calls []pair) {
	tokens, _, _ := lexis.Tokens(formula)
	var open []int
	for i, x := range tokens {
		switch {
		case x.Kind != api.LSign:
		case x.Text == "(":
			open = append(open, i)
		case x.Text == ")":
			from := open[len(open)-1]
			open = open[:len(open)-1]
			p := pair{tokens[from].At, x.At}
			if tokens[from-1].Kind == api.LName {
				calls = append(calls, p)
			} else {
				around = append(around, p)
			}
		}
	}
	return around, calls
}

// without is a formula in which blanks stand for some parentheses.
func without(formula string, left ...pair) string {
	b := []byte(formula)
	for _, p := range left {
		b[p.from], b[p.to] = ' ', ' '
	}
	return string(b)
}

// says tells whether a formula is read as a term.
func says(formula string, t api.Term) bool {
	got, _, errno := syntax.Parse(formula)
	return errno == api.OK && syntax.Same(got, t)
}

// modelTerm is a term's text: of all parentheses that could stand around operands, those without which it would be read otherwise.
// It holds for terms that are not so deep that the others can't stand.
func modelTerm(t api.Term) string {
	formula := "=" + fenced(t)
	around, _ := pairs(formula)
	var gone []pair
	for _, p := range around {
		if says(without(formula, append(gone, p)...), t) {
			gone = append(gone, p)
		}
	}
	// what is left out must leave no blanks behind, but those of texts and sheets' names stay
	b := []byte(without(formula, gone...))
	out := []byte{}
	for i, c := range b[1:] {
		if c == formula[i+1] {
			out = append(out, c)
		}
	}
	return string(out)
}
