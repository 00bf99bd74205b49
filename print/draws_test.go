package print_test

import (
	"math"
	"strings"

	"gridiron/api"
)

// draws looks drawn, and is the same in each run.
type draws uint64

// below is a number from 0 on below n.
func (d *draws) below(n int) int {
	x := uint64(*d)
	x ^= x << 13
	x ^= x >> 7
	x ^= x << 17
	*d = draws(x)
	return int(x * 0x2545F4914F6CDD1D >> 33 % uint64(n))
}

func pick[T any](d *draws, from ...T) T {
	return from[d.below(len(from))]
}

// constant is a number, a text or an error.
func (d *draws) constant() api.Term {
	switch d.below(4) {
	case 0:
		return text(pick(d, "", "a", `"`, "a b", "(", ")", "é", "\r\n\t", `";"`, "=1", "\U0001F600"))
	case 1:
		return failure(1 + d.below(9))
	case 2:
		return num(math.Float64frombits(uint64(d.below(0x7FF))<<52 | uint64(d.below(1<<26))<<26 | uint64(d.below(1<<26))))
	}
	return num(pick(d, 0, 1, 2, 0.5, 10, 1e15, 1e20, 1e21, 1e22, 1e-6, 1e-7, math.MaxFloat64, math.SmallestNonzeroFloat64))
}

func (d *draws) reference() api.Term {
	corner := func() api.Corner {
		return api.Corner{Row: pick(d, 0, 1, 9, api.MaxRows-1), Col: pick(d, 0, 25, 26, api.MaxCols-1), AbsRow: d.below(2) > 0, AbsCol: d.below(2) > 0}
	}
	r := api.Ref{A: corner(), Area: d.below(2) > 0}
	if r.Area {
		r.B = corner()
	}
	if d.below(2) > 0 {
		r.Sheet, r.Fixed = pick(d, "S", "Sheet1", "x y", "1", "é", "(", `"`), d.below(2) > 0
		if r.Area && d.below(2) > 0 {
			r.To = pick(d, "T", "_", "a.b", " ")
		}
	}
	return ref(r)
}

// term is a term that some formula says, of about so many parts.
func (d *draws) term(parts int) api.Term {
	if parts < 2 {
		switch d.below(4) {
		case 0:
			return d.reference()
		case 1:
			return name(pick(d, "a", "b", "A", "_", "e5", "TRUE", "rate.x_1", strings.Repeat("n", api.MaxName)))
		case 2:
			return call(pick(d, "F", "TRUE", "E1", "_"))
		}
		return d.constant()
	}
	switch d.below(9) {
	case 0:
		return d.call(parts - 1)
	case 1:
		return d.array(1+d.below(3), 1+d.below(3))
	case 2, 3:
		return op(pick(d, api.NPlus, api.NNeg, api.NPer), d.term(parts-1))
	}
	first := d.below(parts)
	return op(pick(d, signsOf(2)...).op, d.term(first), d.term(parts-1-first))
}

func (d *draws) call(parts int) api.Term {
	n := 1 + d.below(4)
	out := call(pick(d, "F", "SUM", "G.X", "_1"))
	for range n {
		if n > 1 && d.below(3) == 0 {
			out.Args = append(out.Args, miss())
		} else {
			out.Args = append(out.Args, d.term(parts/n))
		}
	}
	return out
}

func (d *draws) array(rows, cols int) api.Term {
	out := array(rows)
	for range rows * cols {
		x := d.constant()
		switch {
		case d.below(5) == 0:
			x = call(pick(d, "TRUE", "FALSE"))
		case x.Op == api.NNum && x.Num > 0 && d.below(2) > 0:
			x.Num = -x.Num
		}
		out.Args = append(out.Args, x)
	}
	return out
}

// near is a term that is like another but for one place.
func (d *draws) near(t api.Term) api.Term {
	t = copied(t)
	all := inside(&t)
	x := all[d.below(len(all))]
	switch d.below(9) {
	case 0:
		x.Op = 1 + d.below(25)
	case 1:
		*x = d.term(3)
	case 8:
		if len(x.Args) == 2 && levelOf(x.Op) < 10 {
			x.Op = pick(d, signsOf(2)...).op
		}
	case 2:
		if len(x.Args) == 2 {
			x.Args[0], x.Args[1] = x.Args[1], x.Args[0]
		}
	case 3:
		d.turn(x)
	case 4:
		x.Rows = d.below(4)
	case 5:
		x.Num = pick(d, math.Nextafter(x.Num, 9), -x.Num, x.Num+1)
	case 6:
		x.Args = append(x.Args, pick(d, miss(), num(1), num(-1), call("TRUE")))
	case 7:
		x.Args = x.Args[:d.below(len(x.Args)+1)]
	}
	return t
}

// turn makes a term of two operators out of one in which they stand the other way round.
func (d *draws) turn(x *api.Term) {
	switch {
	case len(x.Args) == 2 && len(x.Args[0].Args) == 2:
		a, b, c := x.Args[0].Args[0], x.Args[0].Args[1], x.Args[1]
		*x = op(x.Args[0].Op, a, op(x.Op, b, c))
	case len(x.Args) == 2 && len(x.Args[1].Args) == 2:
		a, b, c := x.Args[0], x.Args[1].Args[0], x.Args[1].Args[1]
		*x = op(x.Args[1].Op, op(x.Op, a, b), c)
	case len(x.Args) == 1 && len(x.Args[0].Args) > 0:
		below := x.Args[0]
		below.Args[0] = op(x.Op, below.Args[0])
		*x = below
	}
}

// loose is a text that says a term, with blanks, parentheses that need not stand, letters in either case and numbers in other forms.
func (d *draws) loose(t api.Term) string {
	out := d.looseInner(t)
	for d.below(3) == 0 {
		out = "(" + d.blank() + out + ")"
	}
	return d.blank() + out + d.blank()
}

func (d *draws) blank() string {
	return pick(d, "", "", " ", "\t", "\r\n")
}

func (d *draws) looseInner(t api.Term) string {
	fenced := func(x api.Term) string { return "(" + d.loose(x) + ")" }
	for _, s := range everySign() {
		switch {
		case s.op != t.Op:
		case s.operands == 2:
			first, second := fenced(t.Args[0]), fenced(t.Args[1])
			if levelOf(t.Args[0].Op) >= s.level {
				first = d.loose(t.Args[0])
			}
			if levelOf(t.Args[1].Op) > s.level {
				second = d.loose(t.Args[1])
			}
			return first + s.text + second
		case s.op == api.NPer:
			return fenced(t.Args[0]) + d.blank() + s.text
		default:
			return s.text + d.blank() + fenced(t.Args[0])
		}
	}
	switch t.Op {
	case api.NCall:
		args := make([]string, len(t.Args))
		for i, x := range t.Args {
			if x.Op == api.NMiss {
				args[i] = d.blank()
			} else {
				args[i] = d.loose(x)
			}
		}
		return pick(d, t.Name, strings.ToLower(t.Name)) + d.blank() + "(" + strings.Join(args, ";") + ")"
	case api.NNum:
		return d.looseNumber(t)
	}
	return d.looseLeaf(t)
}

// looseNumber is a number in some form of it.
func (d *draws) looseNumber(t api.Term) string {
	out := plain(t)
	switch {
	case strings.Contains(out, "E"):
		return pick(d, out, strings.ReplaceAll(out, "E", "e"), strings.Replace(strings.ReplaceAll(out, "E", "e+"), "+-", "-0", 1))
	case strings.Contains(out, "."):
		return pick(d, out, out+"0", out+"e0", "00"+out)
	}
	return pick(d, out, out+".0", out+"E0", "0"+out)
}

// looseLeaf is the text of a term without operands; of an array with truths in either case, a - ahead of noughts, and blanks.
func (d *draws) looseLeaf(t api.Term) string {
	if t.Op != api.NArray {
		return fenced(t)
	}
	out := "{"
	for i, x := range t.Args {
		switch {
		case i == 0:
		case i%(len(t.Args)/t.Rows) == 0:
			out += "|"
		default:
			out += ";"
		}
		out += d.blank()
		switch {
		case x.Op == api.NCall:
			out += pick(d, x.Name, strings.ToLower(x.Name), x.Name[:1]+strings.ToLower(x.Name[1:]))
		case x.Op == api.NNum && x.Num == 0:
			out += pick(d, "0", "-0", "- 0.0")
		default:
			out += plain(x)
		}
	}
	return out + d.blank() + "}"
}

// levelOf is how tightly a term holds, by the tests' own table.
func levelOf(op int) int {
	for _, s := range everySign() {
		if s.op == op {
			return s.level
		}
	}
	return 10
}

// token is some token's text.
func (d *draws) token() string {
	if d.below(2) == 0 {
		return pick(d, "1", "0", "2.50", "1e20", `"t"`, "#N/A", "[.A1]", "[S.A1:T.B2]", "x", "f()", "F(;)", "{1;-2}", "{true|-0}")
	}
	return pick(d, "(", ")", "F(", ";", "+", "-", "*", "/", "^", "&", "=", "<>", "<", "<=", ">", ">=", "%", "~", "!")
}
