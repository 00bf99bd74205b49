package syntax

import "gridiron/api"

// The lines of the grammar, by what they bind: the greater, the closer.
const (
	lineTerm = 1 + iota
	lineCat
	lineSum
	lineProd
	linePow
	linePer
	linePre
	lineUnion
	lineCommon
	linePrime
)

// operator is a sign between two operands.
type operator struct {
	line int
	sign string
	op   int
}

var operators = [...]operator{
	{lineTerm, "=", api.NEq},
	{lineTerm, "<>", api.NNe},
	{lineTerm, "<", api.NLt},
	{lineTerm, "<=", api.NLe},
	{lineTerm, ">", api.NGt},
	{lineTerm, ">=", api.NGe},
	{lineCat, "&", api.NCat},
	{lineSum, "+", api.NAdd},
	{lineSum, "-", api.NSub},
	{lineProd, "*", api.NMul},
	{lineProd, "/", api.NDiv},
	{linePow, "^", api.NPow},
	{lineUnion, "~", api.NUnion},
	{lineCommon, "!", api.NCommon},
}

// between is the operation of a line's sign between two operands, or 0, if the line has no such sign.
func between(line int, sign string) int {
	for _, o := range operators {
		if o.line == line && o.sign == sign {
			return o.op
		}
	}
	return 0
}

// ahead is the operation of a sign ahead of its operand, or 0, if none is written so.
func ahead(sign string) int {
	switch sign {
	case "+":
		return api.NPlus
	case "-":
		return api.NNeg
	}
	return 0
}

// lineOf is the line of the grammar that an operation is written on, or 0, if there is no such operation.
func lineOf(op int) int {
	for _, o := range operators {
		if o.op == op {
			return o.line
		}
	}
	switch {
	case op == api.NPer:
		return linePer
	case op == api.NPlus || op == api.NNeg:
		return linePre
	case api.NNum <= op && op <= api.NMiss:
		return linePrime
	}
	return 0
}
