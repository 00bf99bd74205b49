package array

import (
	"gridiron/api"
	"gridiron/value"
)

// Unary is what an operator makes of a value.
func Unary(op int, a api.Value) api.Value {
	if value.Check(a) != api.OK {
		return value.Err(api.EValue)
	}
	return unary(op)(a)
}

// Binary is what an operator makes of two values.
func Binary(op int, a, b api.Value) api.Value {
	if value.Check(a) != api.OK || value.Check(b) != api.OK {
		return value.Err(api.EValue)
	}
	return binary(op)(a, b)
}

// Map1 is what an operator makes of each value of an array.
func Map1(op int, a api.Arr) api.Arr {
	if Check(a) != api.OK {
		return One(value.Err(api.EValue))
	}
	operator := unary(op)
	return filled(a.Rows, a.Cols, func(row, col int) api.Value {
		return operator(at(a, row, col))
	})
}

// Map2 is what an operator makes of two arrays, place by place.
func Map2(op int, a, b api.Arr) api.Arr {
	if Check(a) != api.OK || Check(b) != api.OK {
		return One(value.Err(api.EValue))
	}
	rows, cols := max(a.Rows, b.Rows), max(a.Cols, b.Cols)
	if rows*cols > api.MaxArea {
		return One(value.Err(api.ELimit))
	}
	operator := binary(op)
	return filled(rows, cols, func(row, col int) api.Value {
		return operator(at(a, row, col), at(b, row, col))
	})
}

// unary is the operator of one value with a number.
func unary(op int) func(a api.Value) api.Value {
	all := unaries()
	if op < 0 || op >= len(all) || all[op] == nil {
		return func(api.Value) api.Value { return value.Err(api.EValue) }
	}
	return all[op]
}

// binary is the operator of two values with a number.
func binary(op int) func(a, b api.Value) api.Value {
	all := binaries()
	if op < 0 || op >= len(all) || all[op] == nil {
		return func(_, _ api.Value) api.Value { return value.Err(api.EValue) }
	}
	return all[op]
}

// unaries are the operators of one well-formed value, by their numbers.
func unaries() [api.NPer + 1]func(a api.Value) api.Value {
	return [...]func(a api.Value) api.Value{
		api.NPlus: own,
		api.NNeg:  single(negative).of,
		api.NPer:  single(hundredth).of,
	}
}

// binaries are the operators of two well-formed values, by their numbers.
func binaries() [api.NGe + 1]func(a, b api.Value) api.Value {
	return [...]func(a, b api.Value) api.Value{
		api.NPow: numeric(power).of,
		api.NMul: numeric(product).of,
		api.NDiv: numeric(quotient).of,
		api.NAdd: numeric(sum).of,
		api.NSub: numeric(difference).of,
		api.NCat: textual(joined).of,
		api.NEq:  order{same: true}.of,
		api.NNe:  order{less: true, more: true}.of,
		api.NLt:  order{less: true}.of,
		api.NLe:  order{less: true, same: true}.of,
		api.NGt:  order{more: true}.of,
		api.NGe:  order{same: true, more: true}.of,
	}
}

// single is an operator of one number.
type single func(x float64) float64

func (f single) of(a api.Value) api.Value {
	x := value.AsNumber(a)
	if x.Kind == api.VErr {
		return x
	}
	return value.Reckon(f(x.Num))
}

// numeric is an operator of two numbers.
type numeric func(x, y float64) api.Value

func (f numeric) of(a, b api.Value) api.Value {
	x, y := value.AsNumber(a), value.AsNumber(b)
	if wrong, is := firstError(x, y); is {
		return wrong
	}
	return f(x.Num, y.Num)
}

// textual is an operator of two texts.
type textual func(s, t string) api.Value

func (f textual) of(a, b api.Value) api.Value {
	s, t := value.AsText(a), value.AsText(b)
	if wrong, is := firstError(s, t); is {
		return wrong
	}
	return f(s.Text, t.Text)
}

// order is an operator that asks how two values stand: which of the three it takes.
type order struct {
	less, same, more bool
}

func (o order) of(a, b api.Value) api.Value {
	if wrong, is := firstError(a, b); is {
		return wrong
	}
	switch value.Compare(a, b) {
	case -1:
		return value.Bool(o.less)
	case 0:
		return value.Bool(o.same)
	}
	return value.Bool(o.more)
}

// firstError is the first one of two values that is an error, if one is.
func firstError(a, b api.Value) (api.Value, bool) {
	switch {
	case a.Kind == api.VErr:
		return a, true
	case b.Kind == api.VErr:
		return b, true
	}
	return api.Value{}, false
}
