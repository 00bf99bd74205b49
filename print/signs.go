package print

import "gridiron/api"

// Sign is an operator's; empty: there is none.
func Sign(op int) string {
	return operationOf(op).sign
}

// Level is how tightly a term holds: from 1 on; 0: there is no such one.
func Level(op int) int {
	return operationOf(op).level
}

// operation is how the terms of an operation are written.
type operation struct {
	sign  string
	level int
}

// operations are all that there are, by their numbers.
var operations = [...]operation{
	api.NNum:    {"", 10},
	api.NText:   {"", 10},
	api.NErr:    {"", 10},
	api.NRef:    {"", 10},
	api.NName:   {"", 10},
	api.NCall:   {"", 10},
	api.NArray:  {"", 10},
	api.NMiss:   {"", 10},
	api.NPlus:   {"+", 7},
	api.NNeg:    {"-", 7},
	api.NPer:    {"%", 6},
	api.NPow:    {"^", 5},
	api.NMul:    {"*", 4},
	api.NDiv:    {"/", 4},
	api.NAdd:    {"+", 3},
	api.NSub:    {"-", 3},
	api.NCat:    {"&", 2},
	api.NEq:     {"=", 1},
	api.NNe:     {"<>", 1},
	api.NLt:     {"<", 1},
	api.NLe:     {"<=", 1},
	api.NGt:     {">", 1},
	api.NGe:     {">=", 1},
	api.NUnion:  {"~", 8},
	api.NCommon: {"!", 9},
}

// operationOf is the operation with a number, or one without anything, if there is none.
func operationOf(op int) operation {
	if op < 0 || op >= len(operations) {
		return operation{}
	}
	return operations[op]
}
