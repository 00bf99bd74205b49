package syntax

import (
	"math"
	"strings"

	"gridiron/api"
	"gridiron/lexis"
)

// Check tells whether a formula says a term, however long it would be.
func Check(t api.Term) bool {
	return stands(&t, lineTerm, 1)
}

// stands tells whether a term can stand on a line at a depth.
func stands(t *api.Term, line, depth int) bool {
	own := lineOf(t.Op)
	if own < line {
		// it needs parentheses
		depth++
	}
	if own == 0 || depth > api.MaxDepth || !bare(t) {
		return false
	}
	switch own {
	case linePrime:
		return primeStands(t, depth)
	case linePre:
		return len(t.Args) == 1 && stands(&t.Args[0], linePre, depth+1)
	}
	return rowStands(t, own, depth)
}

// rowStands tells whether the operators of one line, the last of which is the term's, can stand there with their operands.
func rowStands(t *api.Term, line, depth int) bool {
	row := operatorsOf(t, line)
	// the operator with the number k has its second operand, or its sign itself, at the depth and k
	if depth+len(row) > api.MaxDepth {
		return false
	}
	operands := 2
	if line == linePer {
		operands = 1
	}
	for i, x := range row {
		if len(x.Args) != operands || !bare(x) {
			return false
		}
		if operands == 2 && !stands(&x.Args[1], line+1, depth+len(row)-i) {
			return false
		}
	}
	first := &row[len(row)-1].Args[0]
	return stands(first, line+1, depth)
}

// operatorsOf are the terms whose operators stand in one row with a term's, from the last one to the first one; of more than can stand there not all.
func operatorsOf(t *api.Term, line int) []*api.Term {
	row := []*api.Term{t}
	for len(t.Args) > 0 && lineOf(t.Args[0].Op) == line && len(row) <= api.MaxDepth {
		t = &t.Args[0]
		row = append(row, t)
	}
	return row
}

// bare tells whether a term has nothing but what its operation has, Args aside.
func bare(t *api.Term) bool {
	own := api.Term{Op: t.Op}
	switch t.Op {
	case api.NNum:
		own.Num = t.Num
	case api.NText:
		own.Text = t.Text
	case api.NErr:
		own.Err = t.Err
	case api.NRef:
		own.Ref = t.Ref
	case api.NName, api.NCall:
		own.Name = t.Name
	case api.NArray:
		own.Rows = t.Rows
	}
	return sameFields(t, &own)
}

// primeStands tells whether a term that is no operator's can stand at a depth.
func primeStands(t *api.Term, depth int) bool {
	switch t.Op {
	case api.NCall:
		return isFunction(t.Name) && argsStand(t.Args, depth+1)
	case api.NArray:
		return arrayStands(t)
	case api.NName:
		return len(t.Args) == 0 && isToken(api.Lexeme{Kind: api.LName, Text: t.Name})
	case api.NRef:
		return len(t.Args) == 0 && isToken(api.Lexeme{Kind: api.LRef, Ref: t.Ref})
	}
	return constantStands(t)
}

// isToken tells whether a formula can have a token.
func isToken(x api.Lexeme) bool {
	_, errno := lexis.Text(x)
	return errno == api.OK
}

// constantStands tells whether a term is a number, a text or an error that a token says.
func constantStands(t *api.Term) bool {
	if len(t.Args) > 0 {
		return false
	}
	switch t.Op {
	case api.NNum:
		return isToken(api.Lexeme{Kind: api.LNum, Num: t.Num})
	case api.NText:
		return isToken(api.Lexeme{Kind: api.LText, Text: t.Text})
	case api.NErr:
		return isToken(api.Lexeme{Kind: api.LErr, Err: t.Err})
	}
	return false
}

// isFunction tells whether a function may have a name.
func isFunction(name string) bool {
	return lexis.Name(name) && name == strings.ToUpper(name)
}

// argsStand tells whether a call can have such arguments, which are at a depth.
func argsStand(args []api.Term, depth int) bool {
	if len(args) > api.MaxArgs {
		return false
	}
	for i := range args {
		if !argStands(&args[i], len(args), depth) {
			return false
		}
	}
	return true
}

// argStands tells whether a call of so many arguments can have one.
func argStands(t *api.Term, of, depth int) bool {
	if t.Op == api.NMiss {
		// a single one would be none
		return of > 1 && bare(t) && len(t.Args) == 0
	}
	return stands(t, lineTerm, depth)
}

func arrayStands(t *api.Term) bool {
	n := len(t.Args)
	if n < 1 || n > api.MaxArea || t.Rows < 1 || n%t.Rows != 0 {
		return false
	}
	for i := range t.Args {
		if !itemStands(&t.Args[i]) {
			return false
		}
	}
	return true
}

func itemStands(t *api.Term) bool {
	if !bare(t) {
		return false
	}
	if t.Op == api.NCall {
		return isTruth(t.Name) && len(t.Args) == 0
	}
	if t.Op == api.NNum && t.Num < 0 {
		// the sign is none of the number's token
		positive := api.Term{Op: api.NNum, Num: math.Abs(t.Num), Args: t.Args}
		return constantStands(&positive)
	}
	return constantStands(t)
}
