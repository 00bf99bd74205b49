package syntax

import (
	"strings"

	"gridiron/api"
)

// reader goes through the tokens of a formula, and gives it up where it says no term.
type reader struct {
	tokens []api.Lexeme // those that are left
	end    int          // the length of the formula
}

// place is the byte at which the next token begins, or the formula's end.
func (r *reader) place() int {
	if len(r.tokens) == 0 {
		return r.end
	}
	return r.tokens[0].At
}

// look is the next token, or one of no kind, if there is none.
func (r *reader) look() api.Lexeme {
	if len(r.tokens) == 0 {
		return api.Lexeme{}
	}
	return r.tokens[0]
}

// take goes past the next token, which is there.
func (r *reader) take() {
	r.tokens = r.tokens[1:]
}

// sign is the next token, if it is a sign.
func (r *reader) sign() string {
	if x := r.look(); x.Kind == api.LSign {
		return x.Text
	}
	return ""
}

// skip goes past a sign, if it comes next.
func (r *reader) skip(sign string) bool {
	is := r.sign() == sign
	if is {
		r.take()
	}
	return is
}

// need goes past a sign that must come next.
func (r *reader) need(sign string) {
	hold(r.skip(sign), r.place(), api.ErrSyntax)
}

// refuse gives the formula up at the next token, which can't stand there.
func (r *reader) refuse() {
	hold(false, r.place(), api.ErrSyntax)
}

// reach gives the formula up, if what comes next is at a depth that may not be.
func (r *reader) reach(depth int) {
	if depth > api.MaxDepth {
		hold(len(r.tokens) > 0, r.end, api.ErrSyntax)
		hold(false, r.place(), api.ErrNested)
	}
}

func (r *reader) formula() api.Term {
	r.need("=")
	out := r.term(1)
	hold(len(r.tokens) == 0, r.place(), api.ErrSyntax)
	return out
}

func (r *reader) term(depth int) api.Term {
	r.reach(depth)
	return r.line(lineTerm, depth)
}

// line reads what stands on a line of the grammar; its operators bind to the left.
func (r *reader) line(line, depth int) api.Term {
	switch line {
	case linePer:
		return r.per(depth)
	case linePrime:
		return r.prime(depth)
	}
	out := r.line(line+1, depth)
	for {
		op := between(line, r.sign())
		if op == 0 {
			return out
		}
		r.take()
		depth++
		r.reach(depth)
		out = api.Term{Op: op, Args: []api.Term{out, r.line(line+1, depth)}}
	}
}

func (r *reader) per(depth int) api.Term {
	out := r.pre(depth)
	for r.sign() == "%" {
		depth++
		r.reach(depth)
		r.take()
		out = api.Term{Op: api.NPer, Args: []api.Term{out}}
	}
	return out
}

func (r *reader) pre(depth int) api.Term {
	op := ahead(r.sign())
	if op == 0 {
		return r.line(lineUnion, depth)
	}
	r.take()
	r.reach(depth + 1)
	return api.Term{Op: op, Args: []api.Term{r.pre(depth + 1)}}
}

func (r *reader) prime(depth int) api.Term {
	x := r.look()
	switch {
	case x.Kind == api.LName:
		r.take()
		if r.skip("(") {
			// of a name, capitals are all that this makes
			return api.Term{Op: api.NCall, Name: strings.ToUpper(x.Text), Args: r.args(depth + 1)}
		}
		return api.Term{Op: api.NName, Name: x.Text}
	case x.Kind == api.LRef:
		r.take()
		return api.Term{Op: api.NRef, Ref: x.Ref}
	case r.skip("("):
		out := r.term(depth + 1)
		r.need(")")
		return out
	case r.skip("{"):
		return r.array()
	}
	return r.constant()
}

// args are a call's arguments, and what closes them.
func (r *reader) args(depth int) []api.Term {
	if r.skip(")") {
		return nil
	}
	out := []api.Term{r.arg(depth)}
	for r.skip(";") {
		hold(len(out) < api.MaxArgs, r.place(), api.ErrMany)
		out = append(out, r.arg(depth))
	}
	r.need(")")
	return out
}

// arg is an argument, be it there or not.
func (r *reader) arg(depth int) api.Term {
	if sign := r.sign(); sign == ";" || sign == ")" {
		return api.Term{Op: api.NMiss}
	}
	return r.term(depth)
}

// array is what stands between braces, and what closes it.
func (r *reader) array() api.Term {
	out := api.Term{Op: api.NArray, Rows: 1, Args: []api.Term{r.item(0)}}
	for r.skip(";") {
		out.Args = append(out.Args, r.item(len(out.Args)))
	}
	width := len(out.Args)
	for r.skip("|") {
		out.Rows++
		out.Args = append(out.Args, r.item(len(out.Args)))
		for range width - 1 {
			r.need(";")
			out.Args = append(out.Args, r.item(len(out.Args)))
		}
	}
	r.need("}")
	return out
}

// item is an item of an array, behind so many others.
func (r *reader) item(behind int) api.Term {
	hold(behind < api.MaxArea, r.place(), api.ErrMany)
	x := r.look()
	switch {
	case x.Kind == api.LName && isTruth(strings.ToUpper(x.Text)):
		r.take()
		return api.Term{Op: api.NCall, Name: strings.ToUpper(x.Text)}
	case r.skip("-"):
		if r.look().Kind != api.LNum {
			r.refuse()
		}
		out := r.constant()
		// by this 0 stays 0
		out.Num = 0 - out.Num
		return out
	}
	return r.constant()
}

// constant is a number, a text or an error, which must come next.
func (r *reader) constant() api.Term {
	x := r.look()
	var out api.Term
	switch x.Kind {
	case api.LNum:
		out = api.Term{Op: api.NNum, Num: x.Num}
	case api.LText:
		out = api.Term{Op: api.NText, Text: x.Text}
	case api.LErr:
		out = api.Term{Op: api.NErr, Err: x.Err}
	default:
		r.refuse()
	}
	r.take()
	return out
}

// isTruth tells whether a function is one that stands in arrays.
func isTruth(name string) bool {
	return name == "TRUE" || name == "FALSE"
}
