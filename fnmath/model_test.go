package fnmath_test

import (
	"math/big"
	"slices"
	"strings"

	"gridiron/api"
	"gridiron/array"
	"gridiron/value"
)

// plan is what a function takes, one word an argument, and what it answers of that: x a number, n a whole number, t a text, each with = and what it is without it; numbers and areas: all that are left; draws.
type plan struct {
	takes string
	of    func(m taken) api.Value
}

// taken is what the model has taken of arguments.
type taken struct {
	x     []float64 // numbers, 0 in the places of texts
	t     []string
	l     []float64
	areas []api.Arg
	draw  float64
}

// model is what a function answers of arguments, and whether it answers.
func model(name string, args []api.Arg, draws []float64) (api.Value, bool) {
	p, is := plans()[name]
	least, most := sizes(p.takes)
	if !is || len(args) < least || len(args) > most {
		return api.Value{}, false
	}
	for _, a := range args {
		if array.CheckArg(a) != api.OK {
			return api.Value{}, false
		}
	}
	var m taken
	if len(draws) > 0 && draws[0] >= 0 && draws[0] < 1 {
		m.draw = draws[0]
	}
	for i, word := range strings.Fields(p.takes) {
		if word == "areas" || word == "pair" {
			m.areas = args
			break
		}
		if wrong := m.take(word, i, args); wrong.Kind == api.VErr {
			return wrong, true
		}
	}
	return p.of(m), true
}

// sizes are how many arguments what a plan takes may be.
func sizes(takes string) (int, int) {
	least, most := 0, 0
	for _, word := range strings.Fields(takes) {
		most++
		if !strings.Contains(word, "=") {
			least++
		}
		switch word {
		case "numbers", "areas":
			most = 32
		case "pair":
			least, most = 2, 2
		}
	}
	return least, most
}

// take takes an argument by its word, or answers an error.
func (m *taken) take(word string, i int, args []api.Arg) api.Value {
	kind, other, _ := strings.Cut(word, "=")
	if kind == "numbers" || kind == "list" {
		var wrong api.Value
		m.l, wrong = numbersOf(args[i:])
		return wrong
	}
	v := api.Value{}
	if i < len(args) {
		v = singleOf(args[i])
	}
	switch {
	case v.Kind == api.VEmpty && other != "":
		v = value.AsNumber(text(other))
	case kind == "t":
		v = value.AsText(v)
	default:
		v = value.AsNumber(v)
	}
	if kind == "n" && v.Kind == api.VNum {
		v.Num = floorOf(v.Num)
		if v.Num > 0x1p53 || v.Num < -0x1p53 {
			v = fault(6)
		}
	}
	m.x, m.t = append(m.x, v.Num), append(m.t, v.Text)
	return v
}

func singleOf(a api.Arg) api.Value {
	switch {
	case a.Rows*a.Cols > 1:
		return fault(3)
	case len(a.Cells) == 0:
		return api.Value{}
	}
	return a.Cells[0].Val
}

func numbersOf(args []api.Arg) ([]float64, api.Value) {
	var out []float64
	for _, a := range args {
		if a.Rows*a.Cols == 1 && !a.Ref && !a.Miss {
			v := value.AsNumber(singleOf(a))
			a.Cells = []api.Place{{Val: v}}
		}
		for _, p := range a.Cells {
			if p.Val.Kind == api.VErr {
				return nil, p.Val
			}
			if p.Val.Kind == api.VNum {
				out = append(out, p.Val.Num)
			}
		}
	}
	return out, api.Value{}
}

// exact rounds what becomes of two floats, if both are finite; else floats do.
func exact(x, y float64, of func(z, x, y *big.Float) *big.Float, plain float64) float64 {
	if x-x != 0 || y-y != 0 {
		return plain
	}
	// a sum of the greatest and the least float has 2,100 bits
	a, b := new(big.Float).SetPrec(53).SetFloat64(x), new(big.Float).SetPrec(53).SetFloat64(y)
	out, _ := of(new(big.Float).SetPrec(2200), a, b).Float64()
	return out
}

func mul(x, y float64) float64 { return exact(x, y, (*big.Float).Mul, x*y) }

func add(x, y float64) float64 { return exact(x, y, (*big.Float).Add, x+y) }

func sub(x, y float64) float64 { return add(x, -y) }

// quo is a quotient; what is divided by 0 is an infinity, as of floats.
func quo(x, y float64) float64 {
	if y == 0 {
		return x / y
	}
	return exact(x, y, (*big.Float).Quo, x/y)
}

// cutOf is a float without what stands behind its point.
func cutOf(x float64) float64 {
	if x-x != 0 {
		return x
	}
	n, _ := new(big.Float).SetFloat64(x).Int(nil)
	out, _ := new(big.Float).SetInt(n).Float64()
	return out
}

func floorOf(x float64) float64 {
	if n := cutOf(x); n <= x || x != x {
		return n
	}
	return cutOf(x) - 1
}

// upOf is the least whole number that is not below a float.
func upOf(x float64) float64 { return -floorOf(-x) }

// reckoned is a number that was reckoned as a value.
func reckoned(x float64) api.Value {
	if x-x != 0 {
		return fault(6)
	}
	return num(x + 0)
}

func amount(x float64) float64 { return max(x, -x) }

// signed is an amount with the sign of another number.
func signed(y, x float64) float64 {
	if x < 0 {
		return -y
	}
	return y
}

func unlike(x, y float64) bool { return x > 0 && y < 0 || x < 0 && y > 0 }

// times is the product of floats, from the first one on.
func times(l ...float64) float64 {
	p := 1.0
	for _, x := range l {
		p = mul(p, x)
	}
	return p
}

// total is the sum of what a function makes of floats.
func total(l []float64, of func(x float64) float64) float64 {
	s := 0.0
	for _, x := range l {
		s = add(s, of(x))
	}
	return s
}

// whole is a float that is whole as a number of any length.
func whole(x float64) *big.Int {
	n, _ := new(big.Float).SetFloat64(x).Int(nil)
	return n
}

func floatOf(n *big.Int) float64 {
	x, _ := new(big.Float).SetInt(n).Float64()
	return x
}

// rounding is ROUND and the like: of makes a whole number of an amount.
func rounding(of func(y float64) float64, up bool) func(m taken) api.Value {
	return func(m taken) api.Value {
		x, n := m.x[0], m.x[1]
		if n > 20 {
			return num(x)
		}
		if n < -20 && up && x != 0 {
			return fault(6)
		}
		if n < -20 {
			return num(0)
		}
		p := floatOf(new(big.Int).Exp(big.NewInt(10), whole(amount(n)), nil))
		forth, back := mul, quo
		if n < 0 {
			forth, back = quo, mul
		}
		y := forth(amount(x), p)
		if y-y != 0 {
			return num(x)
		}
		return reckoned(signed(back(of(y), p), x))
	}
}

// halves goes to the nearest whole number.
func halves(y float64) float64 { return floorOf(add(y, 0.5)) }

// parity is EVEN and ODD: the numbers beside the amount one by one.
func parity(bit uint) func(m taken) api.Value {
	return func(m taken) api.Value {
		y := amount(m.x[0])
		if y > 0x1p52 {
			return fault(6)
		}
		n := whole(upOf(y))
		for n.Bit(0) != bit {
			n.Add(n, big.NewInt(1))
		}
		return reckoned(signed(floatOf(n), m.x[0]))
	}
}

// inSteps is CEILING and FLOOR.
func inSteps(of func(q float64) float64) func(m taken) api.Value {
	return func(m taken) api.Value {
		x, y := m.x[0], m.x[1]
		switch {
		case y == 0:
			return num(0)
		case x > 0 && y < 0:
			return fault(6)
		}
		return reckoned(mul(of(quo(x, y)), y))
	}
}

// inDivision is what divides by its second number.
func inDivision(of func(x, y float64) float64) func(m taken) api.Value {
	return func(m taken) api.Value {
		if m.x[1] == 0 {
			return fault(2)
		}
		return reckoned(of(m.x[0], m.x[1]))
	}
}

// down are n, n - step, .. above 0, rising.
func down(n, step float64) []float64 {
	var out []float64
	for ; n > 0; n -= step {
		out = append(out, n)
	}
	slices.Reverse(out)
	return out
}

func faculty(step, least, most float64) func(m taken) api.Value {
	return func(m taken) api.Value {
		if m.x[0] < least || m.x[0] > most {
			return fault(6)
		}
		return reckoned(times(down(m.x[0], step)...))
	}
}

func choices(n, k float64) api.Value {
	if n < 0 || k < 0 || k > n || n > 1000 {
		return fault(6)
	}
	if n-k < k {
		k = n - k
	}
	r := 1.0
	for i := 1.0; i <= k; i++ {
		r = quo(mul(r, n-k+i), i)
	}
	return reckoned(r)
}

func rows(n, k float64) api.Value {
	if n < 0 || k < 0 || k > n || n > 1000 {
		return fault(6)
	}
	var all []float64
	for i := n; i > n-k; i-- {
		all = append(all, i)
	}
	return reckoned(times(all...))
}

func rowsOfAny(n, k float64) api.Value {
	if n < 0 || k < 0 || k > 1000 {
		return fault(6)
	}
	return reckoned(times(slices.Repeat([]float64{n}, int(k))...))
}

// bitsOf is what becomes of the bits of two numbers of any length.
func bitsOf(of func(z, x, y *big.Int) *big.Int) func(m taken) api.Value {
	return func(m taken) api.Value {
		for _, x := range m.x {
			if x < 0 || x >= 0x1p48 {
				return fault(6)
			}
		}
		return num(floatOf(of(new(big.Int), whole(m.x[0]), whole(m.x[1]))))
	}
}

// shifting goes to the left by k places, times the way.
func shifting(way float64) func(m taken) api.Value {
	return func(m taken) api.Value {
		n, k := m.x[0], m.x[1]
		if n < 0 || n >= 0x1p48 || k < -53 || k > 53 {
			return fault(6)
		}
		to := new(big.Int)
		if k*way < 0 {
			to.Rsh(whole(n), uint(amount(k)))
		} else {
			to.Lsh(whole(n), uint(amount(k)))
		}
		if to.BitLen() > 48 {
			return fault(6)
		}
		return num(floatOf(to))
	}
}
