package array_test

import (
	"fmt"
	"math"
	"strings"
	"testing"

	"gridiron/api"
	"gridiron/array"
	"gridiron/value"
)

func wantUnary(t *testing.T, op int, a, want api.Value) {
	t.Helper()
	wantValue(t, fmt.Sprintf("Unary(%d, %s)", op, told(a)), array.Unary(op, a), want)
}

func wantBinary(t *testing.T, op int, a, b, want api.Value) {
	t.Helper()
	wantValue(t, fmt.Sprintf("Binary(%d, %s, %s)", op, told(a), told(b)), array.Binary(op, a, b), want)
}

// ops are all operators there are, of either kind, and numbers of none.
func ops() []int {
	out := []int{math.MinInt, -1, 26, 100, math.MaxInt}
	for op := range api.NCommon + 1 {
		out = append(out, op)
	}
	return out
}

// P16.3: what the chapter says of operators of one value, by hand.
func TestUnary(t *testing.T) {
	for _, v := range formed() {
		wantUnary(t, api.NPlus, v, v)
	}
	wantUnary(t, api.NNeg, num(5), num(-5))
	wantUnary(t, api.NNeg, num(-5), num(5))
	wantUnary(t, api.NNeg, num(0), num(0))
	wantUnary(t, api.NNeg, api.Value{}, num(0))
	wantUnary(t, api.NNeg, text("2.5"), num(-2.5))
	wantUnary(t, api.NNeg, text("-0"), num(0))
	wantUnary(t, api.NNeg, text("x"), fault(api.EValue))
	wantUnary(t, api.NNeg, text(""), fault(api.EValue))
	wantUnary(t, api.NNeg, truth(true), num(-1))
	wantUnary(t, api.NNeg, truth(false), num(0))
	wantUnary(t, api.NNeg, num(math.MaxFloat64), num(-math.MaxFloat64))
	wantUnary(t, api.NPer, num(50), num(0.5))
	wantUnary(t, api.NPer, num(7), num(0.07))
	wantUnary(t, api.NPer, num(0), num(0))
	wantUnary(t, api.NPer, text("50"), num(0.5))
	wantUnary(t, api.NPer, truth(true), num(0.01))
	wantUnary(t, api.NPer, api.Value{}, num(0))
	wantUnary(t, api.NPer, text("TRUE"), fault(api.EValue))
	// it comes to -0
	wantUnary(t, api.NPer, num(-math.SmallestNonzeroFloat64), num(0))
	for code := 1; code <= 9; code++ {
		for _, op := range []int{api.NPlus, api.NNeg, api.NPer} {
			wantUnary(t, op, fault(code), fault(code))
		}
	}
}

// P16.3: every operator and every number of none, over each kind of value and what is not well formed.
func TestUnaryOfAll(t *testing.T) {
	for _, op := range ops() {
		for _, v := range append(formed(), malformed()...) {
			wantUnary(t, op, v, modelUnary(op, v))
			if value.Check(v) != api.OK || op < api.NPlus || op > api.NPer {
				wantUnary(t, op, v, fault(api.EValue))
			}
		}
	}
}

// P16.3: sums, differences, products and quotients, by hand.
func TestNumbers(t *testing.T) {
	tiny, huge := math.SmallestNonzeroFloat64, math.MaxFloat64
	for _, x := range []struct {
		op         int
		a, b, want api.Value
	}{
		{api.NAdd, num(1), num(2), num(3)}, {api.NAdd, num(0.1), num(0.2), num(0.30000000000000004)}, {api.NAdd, text("1"), truth(true), num(2)},
		{api.NAdd, api.Value{}, api.Value{}, num(0)}, {api.NAdd, num(huge), num(huge), fault(api.ENum)}, {api.NAdd, num(-huge), num(-huge), fault(api.ENum)},
		{api.NAdd, text("x"), fault(api.ENA), fault(api.EValue)}, {api.NAdd, fault(api.ENA), text("x"), fault(api.ENA)}, {api.NAdd, num(1), fault(api.ENA), fault(api.ENA)},
		{api.NAdd, num(1), text(""), fault(api.EValue)}, {api.NAdd, num(5), num(-5), num(0)},
		{api.NSub, num(1), num(2), num(-1)}, {api.NSub, num(2), num(2), num(0)}, {api.NSub, api.Value{}, num(0), num(0)}, {api.NSub, num(huge), num(-huge), fault(api.ENum)},
		{api.NSub, fault(api.ERef), fault(api.ENA), fault(api.ERef)},
		{api.NMul, num(3), num(-2), num(-6)}, {api.NMul, num(0), num(-2), num(0)}, {api.NMul, num(huge), num(2), fault(api.ENum)}, {api.NMul, num(tiny), num(-0.5), num(0)},
		{api.NMul, text("2"), text("2e1"), num(40)}, {api.NMul, text("1e999"), num(0), fault(api.EValue)},
		{api.NDiv, num(1), num(4), num(0.25)}, {api.NDiv, num(1), num(0), fault(api.EDiv)}, {api.NDiv, num(0), num(0), fault(api.EDiv)}, {api.NDiv, num(0), num(-5), num(0)},
		{api.NDiv, num(1), text("-0"), fault(api.EDiv)}, {api.NDiv, num(1), api.Value{}, fault(api.EDiv)}, {api.NDiv, num(1), truth(false), fault(api.EDiv)},
		{api.NDiv, num(huge), num(0.5), fault(api.ENum)}, {api.NDiv, num(-tiny), num(2), num(0)}, {api.NDiv, fault(api.EName), num(0), fault(api.EName)}, {api.NDiv, text("x"), num(0), fault(api.EValue)},
		{api.NDiv, num(1), text("x"), fault(api.EValue)},
	} {
		wantBinary(t, x.op, x.a, x.b, x.want)
	}
}

// P16.3: texts one behind the other, by hand.
func TestCat(t *testing.T) {
	for _, x := range [][3]api.Value{
		{num(1), truth(true), text("1TRUE")}, {text(""), text(""), text("")}, {text("a"), text(""), text("a")}, {text(""), text("é"), text("é")},
		{api.Value{}, api.Value{}, text("")}, {num(0.1), num(1e21), text("0.11E21")}, {truth(false), text("x"), text("FALSEx")}, {num(-5), api.Value{}, text("-5")},
		{fault(api.ENum), fault(api.ENA), fault(api.ENum)}, {text("a"), fault(api.ENA), fault(api.ENA)}, {fault(api.ECycle), text("a"), fault(api.ECycle)},
	} {
		wantBinary(t, api.NCat, x[0], x[1], x[2])
	}
}

// P16.3: texts of MaxText bytes together, and of one more; bytes count, not characters.
func TestCatLimit(t *testing.T) {
	all := full()
	for _, n := range []int{0, 1, 2, api.MaxText / 2, api.MaxText - 1, api.MaxText} {
		head := strings.Repeat("b", n)
		wantBinary(t, api.NCat, text(head), text(all[n:]), text(head+all[n:]))
		wantBinary(t, api.NCat, text(head+"c"), text(all[n:]), modelBinary(api.NCat, text(head+"c"), text(all[n:])))
		if n < api.MaxText {
			wantBinary(t, api.NCat, text(head+"c"), text(all[n:]), fault(api.ELimit))
		}
		if n > 0 {
			wantBinary(t, api.NCat, text(head), text("c"+all[n:]), fault(api.ELimit))
		}
	}
	wide := strings.Repeat("é", api.MaxText/2)
	wantBinary(t, api.NCat, text(wide), text(""), text(wide))
	wantBinary(t, api.NCat, text(wide), text("é"), fault(api.ELimit))
	wantBinary(t, api.NCat, text(wide[2:]), text("é"), text(wide))
	wantBinary(t, api.NCat, text(all), num(1), fault(api.ELimit))
	wantBinary(t, api.NCat, text(all[1:]), num(1), text(all[1:]+"1"))
	wantBinary(t, api.NCat, truth(true), text(all[4:]), text("TRUE"+all[4:]))
	wantBinary(t, api.NCat, truth(true), text(all[3:]), fault(api.ELimit))
	wantBinary(t, api.NCat, text(all), text(all), fault(api.ELimit))
	wantBinary(t, api.NCat, text(all), fault(api.ENA), fault(api.ENA))
}

// wantOrder holds all six operators of order at once: how a stands to b.
func wantOrder(t *testing.T, a, b api.Value, stands int) {
	t.Helper()
	for op, want := range map[int]bool{api.NEq: stands == 0, api.NNe: stands != 0, api.NLt: stands < 0, api.NLe: stands <= 0, api.NGt: stands > 0, api.NGe: stands >= 0} {
		wantBinary(t, op, a, b, truth(want))
	}
}

// P16.3: values of each two kinds, by hand: numbers ahead of texts, texts ahead of truths.
func TestOrder(t *testing.T) {
	rising := [][]api.Value{{num(-5)}, {num(0), {}}, {num(0.5)}, {num(5)}, {text("")}, {text("#")}, {text("A"), text("a")}, {text("ab"), text("AB")}, {text("B")}, {text("é")}, {truth(false)}, {truth(true)}}
	for i, some := range rising {
		for j, others := range rising {
			for _, a := range some {
				for _, b := range others {
					stands := i - j
					// the empty value is the text "" against a text, and false comes behind 0
					if a.Kind == api.VEmpty && b.Kind == api.VText {
						stands = 4 - j
					}
					if b.Kind == api.VEmpty && a.Kind == api.VText {
						stands = i - 4
					}
					wantOrder(t, a, b, stands)
				}
			}
		}
	}
	wantOrder(t, text("a"), num(5), 1)
	wantOrder(t, text("5"), num(5), 1)
}

// P16.3: an error that is held against anything is the answer, a's ahead of b's, also if both are the same.
func TestOrderOfErrors(t *testing.T) {
	for op := api.NEq; op <= api.NGe; op++ {
		for code := 1; code <= 9; code++ {
			wantBinary(t, op, fault(code), fault(code), fault(code))
			wantBinary(t, op, fault(code), fault(10-code), fault(code))
			for _, v := range []api.Value{{}, num(1), text("#N/A"), truth(true)} {
				wantBinary(t, op, fault(code), v, fault(code))
				wantBinary(t, op, v, fault(code), fault(code))
			}
		}
	}
}

// P16.3: every operator and every number of none, over each two values, the kinds and the edges among them.
func TestBinaryOfAll(t *testing.T) {
	all := formed()
	for _, op := range ops() {
		for _, a := range all {
			for _, b := range all {
				wantBinary(t, op, a, b, modelBinary(op, a, b))
			}
		}
	}
}

// P16.3: a number of no operator of two values is EValue, ahead of the errors of its operands.
func TestNoOperator(t *testing.T) {
	for _, op := range ops() {
		if op >= api.NPow && op <= api.NGe {
			continue
		}
		for _, v := range formed() {
			wantBinary(t, op, v, v, fault(api.EValue))
			wantBinary(t, op, fault(api.ENA), v, fault(api.EValue))
			wantBinary(t, op, v, fault(api.ENA), fault(api.EValue))
		}
	}
}

// P16.3: a value that is not well formed is EValue, whatever the other one is.
func TestBinaryOfMalformed(t *testing.T) {
	for _, op := range ops() {
		for _, v := range malformed() {
			for _, w := range []api.Value{{}, num(0), num(1), text("a"), truth(true), fault(api.ENA), fault(api.EDiv), long(), odd()} {
				wantBinary(t, op, v, w, fault(api.EValue))
				wantBinary(t, op, w, v, fault(api.EValue))
			}
		}
	}
}
