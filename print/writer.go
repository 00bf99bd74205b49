package print

import (
	"strings"

	"gridiron/api"
	"gridiron/lexis"
	"gridiron/number"
	"gridiron/refs"
	"gridiron/value"
)

// writer puts together the text of a term that a formula says, and gives it up where it becomes too long.
type writer struct {
	text strings.Builder
	most int // bytes that it may have
}

func (w *writer) put(s string) {
	hold(w.text.Len()+len(s) <= w.most, api.ErrLong)
	w.text.WriteString(s)
}

// token puts what a lower layer has answered for a token.
func (w *writer) token(s string, errno api.Errno) {
	hold(errno == api.OK, api.ErrPrint)
	w.put(s)
}

func (w *writer) term(t *api.Term) {
	switch t.Op {
	case api.NNum:
		w.token(number.Text(t.Num))
	case api.NText:
		w.token(lexis.Quote(t.Text))
	case api.NErr:
		w.put(value.ErrText(t.Err))
	case api.NRef:
		w.put("[")
		w.token(refs.Text(t.Ref))
		w.put("]")
	case api.NName:
		w.put(t.Name)
	case api.NCall:
		w.call(t)
	case api.NArray:
		w.array(t)
	case api.NMiss:
		// there is nothing of it but the signs around it
	default:
		w.operator(t)
	}
}

// operator puts an operator with its operands.
func (w *writer) operator(t *api.Term) {
	sign, level := Sign(t.Op), Level(t.Op)
	switch t.Op {
	case api.NPlus, api.NNeg:
		w.put(sign)
		w.operand(&t.Args[0], level)
	case api.NPer:
		w.operand(&t.Args[0], level)
		w.put(sign)
	default:
		w.operand(&t.Args[0], level)
		w.put(sign)
		// operators of one line bind to the left
		w.operand(&t.Args[1], level+1)
	}
}

// operand puts a term, in parentheses if it does not hold as tightly as it must.
func (w *writer) operand(t *api.Term, least int) {
	if Level(t.Op) >= least {
		w.term(t)
		return
	}
	w.put("(")
	w.term(t)
	w.put(")")
}

func (w *writer) call(t *api.Term) {
	w.put(t.Name)
	w.put("(")
	for i := range t.Args {
		if i > 0 {
			w.put(";")
		}
		w.term(&t.Args[i])
	}
	w.put(")")
}

func (w *writer) array(t *api.Term) {
	width := len(t.Args) / t.Rows
	w.put("{")
	for i := range t.Args {
		switch {
		case i == 0:
		case i%width == 0:
			w.put("|")
		default:
			w.put(";")
		}
		w.item(&t.Args[i])
	}
	w.put("}")
}

// item puts an item of an array, where truths are written as names.
func (w *writer) item(t *api.Term) {
	if t.Op == api.NCall {
		w.put(t.Name)
		return
	}
	w.term(t)
}
