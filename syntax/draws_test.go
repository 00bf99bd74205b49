package syntax_test

import (
	"math"
	"strings"

	"gridiron/api"
)

// draws is a row of numbers that look drawn, the same in each run.
type draws uint64

func (d *draws) next() uint64 {
	*d = *d*6364136223846793005 + 1442695040888963407
	high := uint64(*d) >> 32
	*d = *d*6364136223846793005 + 1442695040888963407
	return high<<32 | uint64(*d)>>32
}

func (d *draws) below(n int) int {
	return int(d.next() >> 1 % uint64(n))
}

func (d *draws) yes() bool {
	return d.below(2) == 1
}

// one is one of some texts.
func (d *draws) one(of ...string) string {
	return of[d.below(len(of))]
}

// constant is a number, a text or an error.
func (d *draws) constant() api.Term {
	switch d.below(3) {
	case 0:
		return num([]float64{0, 1, 2, 0.5, 1e30, 1e-300, math.MaxFloat64, math.SmallestNonzeroFloat64, 123456789, 0.1}[d.below(10)])
	case 1:
		return text(d.one("", "a", `"`, "é", "(;)", " ", `a""b`, "\t\n", "=1", "\U0001F600"))
	}
	return failure(1 + d.below(9))
}

// term is a term that some formula says, of about so many parts, none of which is too deep.
func (d *draws) term(size int) api.Term {
	if size < 2 {
		switch d.below(4) {
		case 0:
			return ref(d.one(".A1", ".$B$2:.C3", "$'x y'.A1", "S.A1:T.B2", ".AMJ1048576"))
		case 1:
			return name(d.one("a", "b", "rate", "_x.1", "TRUE", "e5", strings.Repeat("n", api.MaxName)))
		case 2:
			return call(d.one("F", "NOW", "TRUE", "A.B_1"))
		}
		return d.constant()
	}
	switch d.below(8) {
	case 0:
		return d.called(size - 1)
	case 1:
		return d.drawnArray(min(size, 12))
	case 2:
		return op(api.NPlus+d.below(3), d.term(size-1))
	}
	signs := everyBetween()
	first := d.below(size - 1)
	return op(signs[d.below(len(signs))].op, d.term(first), d.term(size-1-first))
}

// called is a call whose arguments have so many parts, some of them not there.
func (d *draws) called(size int) api.Term {
	out := call(d.one("F", "SUM", "G_1", "X.Y"))
	n := 1 + d.below(5)
	for range n {
		if n > 1 && d.below(4) == 0 {
			out.Args = append(out.Args, miss())
		} else {
			out.Args = append(out.Args, d.term(size/n))
		}
	}
	return out
}

func (d *draws) drawnArray(size int) api.Term {
	rows, cols := 1+d.below(4), 1+d.below(size)
	out := array(rows)
	for range rows * cols {
		x := d.constant()
		switch {
		case d.below(6) == 0:
			x = call(d.one("TRUE", "FALSE"))
		case x.Op == api.NNum && x.Num > 0 && d.yes():
			x.Num = -x.Num
		}
		out.Args = append(out.Args, x)
	}
	return out
}

// places are a term and all terms in it.
func places(t *api.Term) []*api.Term {
	out := []*api.Term{t}
	for i := range t.Args {
		out = append(out, places(&t.Args[i])...)
	}
	return out
}

// soiled is a term that has been changed somewhere.
func (d *draws) soiled(t api.Term) api.Term {
	t = deepCopy(t)
	for range 1 + d.below(2) {
		all := places(&t)
		x := all[d.below(len(all))]
		switch d.below(10) {
		case 0:
			x.Op = d.below(29) - 1
		case 1:
			x.Num = []float64{1, -1, 0, math.Copysign(0, -1), math.NaN(), math.Inf(1), math.Inf(-1)}[d.below(7)]
		case 2:
			x.Text = d.one("", "a", "\xff", "\x00", "\uFFFE")
		case 3:
			x.Err = d.below(13) - 1
		case 4:
			x.Name = d.one("", "a", "F", "f", "1", "é", "a b", "TRUE", "true", strings.Repeat("N", api.MaxName+1))
		case 5:
			x.Ref.A.Row = []int{-1, 0, 1, api.MaxRows}[d.below(4)]
		case 6:
			x.Rows = d.below(5) - 1
		case 7:
			x.Args = x.Args[:d.below(len(x.Args)+1)]
		case 8:
			x.Args = append(x.Args, []api.Term{miss(), num(1), num(-1), call("TRUE"), call("F"), name("a")}[d.below(6)])
		case 9:
			if len(x.Args) > 0 {
				x.Args[d.below(len(x.Args))] = []api.Term{miss(), num(1), num(-1), call("TRUE"), array(1, num(1)), op(api.NAdd, num(1), num(2))}[d.below(6)]
			}
		}
	}
	return t
}

// deepCopy is a term whose lists are its own.
func deepCopy(t api.Term) api.Term {
	var args []api.Term
	for _, x := range t.Args {
		args = append(args, deepCopy(x))
	}
	t.Args = args
	return t
}

// token is a token's text.
func (d *draws) token() string {
	switch d.below(5) {
	case 0:
		return d.one("1", "0", "2.5", `"t"`, `""`, "#N/A", "[.A1]", "x", "F", "true")
	case 1:
		return d.one("(", ")", "{", "}", ";", "|", "F(", "=")
	}
	return d.one("+", "-", "*", "/", "^", "&", "=", "<>", "<", "<=", ">", ">=", "%", "~", "!", ";", "(", ")")
}

// spoiled is a formula with some tokens left out, put in, or put in the place of others.
func (d *draws) spoiled(tokens []string) string {
	out := append([]string{}, tokens...)
	for range 1 + d.below(2) {
		at := d.below(len(out) + 1)
		end := min(at+1, len(out))
		switch d.below(3) {
		case 0:
			out = append(out[:at:at], out[end:]...)
		case 1:
			out = append(append(out[:at:at], d.token()), out[end:]...)
		case 2:
			out = append(append(out[:at:at], d.token()), out[at:]...)
		}
	}
	return strings.Join(out, " ")
}
