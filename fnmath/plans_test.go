package fnmath_test

import (
	"math"
	"math/big"
	"slices"
	"strings"
	"sync"

	"gridiron/api"
	"gridiron/array"
)

// plans are all functions by their names.
var plans = sync.OnceValue(func() map[string]plan {
	out := map[string]plan{}
	for _, more := range []map[string]plan{roundPlans(), countPlans(), listPlans(), digitPlans()} {
		for name, p := range more {
			out[name] = p
		}
	}
	return out
})

func roundPlans() map[string]plan {
	return map[string]plan{
		"ABS": {"x", func(m taken) api.Value { return reckoned(amount(m.x[0])) }},
		"SIGN": {"x", func(m taken) api.Value {
			return num(float64(new(big.Float).SetFloat64(m.x[0]).Sign()))
		}},
		"INT":       {"x", func(m taken) api.Value { return reckoned(floorOf(m.x[0])) }},
		"TRUNC":     {"x n=0", rounding(floorOf, false)},
		"ROUND":     {"x n=0", rounding(halves, false)},
		"ROUNDUP":   {"x n=0", rounding(upOf, true)},
		"ROUNDDOWN": {"x n=0", rounding(floorOf, false)},
		"MROUND": {"x x", func(m taken) api.Value {
			x, y := m.x[0], m.x[1]
			switch {
			case y == 0:
				return num(0)
			case unlike(x, y):
				return fault(6)
			}
			return reckoned(mul(halves(quo(x, y)), y))
		}},
		"CEILING": {"x x=1", inSteps(upOf)},
		"FLOOR":   {"x x=1", inSteps(floorOf)},
		"EVEN":    {"x", parity(0)},
		"ODD":     {"x", parity(1)},
		"MOD": {"x x", inDivision(func(x, y float64) float64 {
			return sub(x, mul(y, floorOf(quo(x, y))))
		})},
		"QUOTIENT": {"x x", inDivision(func(x, y float64) float64 { return cutOf(quo(x, y)) })},
		"POWER": {"x x", func(m taken) api.Value {
			return array.Binary(api.NPow, num(m.x[0]), num(m.x[1]))
		}},
		"SQRT": {"x", func(m taken) api.Value {
			if m.x[0] < 0 {
				return fault(6)
			}
			// more digits than any root of a float needs to be told from what lies half between two
			x := new(big.Float).SetPrec(300).SetFloat64(m.x[0])
			root, _ := new(big.Float).SetPrec(300).Sqrt(x).Float64()
			return reckoned(root)
		}},
		"GESTEP": {"x x=0", func(m taken) api.Value { return one(!(m.x[0] < m.x[1])) }},
		"DELTA":  {"x x=0", func(m taken) api.Value { return one(m.x[0] == m.x[1]) }},
	}
}

// one is 1 for what is so, else 0.
func one(is bool) api.Value {
	if is {
		return num(1)
	}
	return num(0)
}

func countPlans() map[string]plan {
	return map[string]plan{
		"FACT":       {"n", faculty(1, 0, 170)},
		"FACTDOUBLE": {"n", faculty(2, -1, 300)},
		"COMBIN":     {"n n", func(m taken) api.Value { return choices(m.x[0], m.x[1]) }},
		"COMBINA": {"n n", func(m taken) api.Value {
			n, k := m.x[0], m.x[1]
			if n < 0 || k < 0 || k > n {
				return fault(6)
			}
			if n == 0 && k == 0 {
				return num(1)
			}
			return choices(add(add(n, k), -1), k)
		}},
		"PERMUT":       {"n n", func(m taken) api.Value { return rows(m.x[0], m.x[1]) }},
		"PERMUTATIONA": {"n n", func(m taken) api.Value { return rowsOfAny(m.x[0], m.x[1]) }},
		"BITAND":       {"n n", bitsOf((*big.Int).And)},
		"BITOR":        {"n n", bitsOf((*big.Int).Or)},
		"BITXOR":       {"n n", bitsOf((*big.Int).Xor)},
		"BITLSHIFT":    {"n n", shifting(1)},
		"BITRSHIFT":    {"n n", shifting(-1)},
		"RAND":         {"", func(m taken) api.Value { return reckoned(m.draw) }},
		"RANDBETWEEN": {"n n", func(m taken) api.Value {
			n, k := m.x[0], m.x[1]
			if n > k {
				return fault(6)
			}
			at := add(n, floorOf(mul(m.draw, add(sub(k, n), 1))))
			if at > k {
				at = k
			}
			return reckoned(at)
		}},
	}
}

// cutAll are numbers without what stands behind their points, if none is below 0 or above the most.
func cutAll(l []float64, most float64) ([]*big.Int, bool) {
	var out []*big.Int
	for _, x := range l {
		if n := floorOf(x); n < 0 || n > most {
			return nil, false
		}
		out = append(out, whole(floorOf(x)))
	}
	return out, true
}

func divisor(m taken) api.Value {
	all, is := cutAll(m.l, 0x1p53)
	if !is {
		return fault(6)
	}
	d := new(big.Int)
	for _, n := range all {
		d.GCD(nil, nil, d, n)
	}
	return num(floatOf(d))
}

func multiple(m taken) api.Value {
	all, is := cutAll(m.l, 0x1p53)
	if !is {
		return fault(6)
	}
	least := big.NewInt(1)
	for _, n := range all {
		if d := new(big.Int).GCD(nil, nil, least, n); d.Sign() > 0 {
			least.Div(least.Mul(least, n), d)
		}
		if least.Cmp(big.NewInt(1<<53)) > 0 {
			return fault(6)
		}
	}
	return num(floatOf(least))
}

func multinomial(m taken) api.Value {
	all, is := cutAll(m.l, math.MaxFloat64)
	sum := new(big.Int)
	for _, n := range all {
		sum.Add(sum, n)
	}
	if !is || sum.Cmp(big.NewInt(170)) > 0 {
		return fault(6)
	}
	r := times(down(floatOf(sum), 1)...)
	for _, n := range all {
		r = quo(r, times(down(floatOf(n), 1)...))
	}
	return reckoned(r)
}

func listPlans() map[string]plan {
	return map[string]plan{
		"GCD":         {"numbers", divisor},
		"LCM":         {"numbers", multiple},
		"MULTINOMIAL": {"numbers", multinomial},
		"SUM": {"numbers", func(m taken) api.Value {
			return reckoned(total(m.l, func(x float64) float64 { return x }))
		}},
		"PRODUCT": {"numbers", func(m taken) api.Value {
			if len(m.l) == 0 {
				return num(0)
			}
			return reckoned(times(m.l...))
		}},
		"SUMSQ": {"numbers", func(m taken) api.Value {
			return reckoned(total(m.l, func(x float64) float64 { return mul(x, x) }))
		}},
		"SUMPRODUCT": {"areas", func(m taken) api.Value {
			return overPlaces(m, api.EValue, func(l []api.Value) float64 {
				p := 1.0
				for _, v := range l {
					p = mul(p, v.Num)
				}
				return p
			})
		}},
		"SUMX2MY2": {"pair", inPairs(func(x, y float64) float64 { return sub(mul(x, x), mul(y, y)) })},
		"SUMX2PY2": {"pair", inPairs(func(x, y float64) float64 { return add(mul(x, x), mul(y, y)) })},
		"SUMXMY2":  {"pair", inPairs(func(x, y float64) float64 { return mul(sub(x, y), sub(x, y)) })},
		"SERIESSUM": {"x n n list", func(m taken) api.Value {
			s := 0.0
			for i, c := range m.l {
				p := array.Binary(api.NPow, num(m.x[0]), num(add(m.x[1], mul(float64(i), m.x[2]))))
				if p.Kind == api.VErr {
					return p
				}
				s = add(s, mul(c, p.Num))
			}
			return reckoned(s)
		}},
	}
}

// overPlaces is the sum of what becomes of the values of areas, place by place; code is for areas that are not of one size.
func overPlaces(m taken, code int, of func(l []api.Value) float64) api.Value {
	told := map[api.Cell][]api.Value{}
	var all []api.Cell
	for i, a := range m.areas {
		if a.Miss || a.Rows != m.areas[0].Rows || a.Cols != m.areas[0].Cols {
			return fault(code)
		}
		for _, p := range a.Cells {
			here := api.Cell{Row: p.Row, Col: p.Col}
			if told[here] == nil {
				told[here], all = make([]api.Value, len(m.areas)), append(all, here)
			}
			told[here][i] = p.Val
		}
	}
	slices.SortFunc(all, func(a, b api.Cell) int { return (a.Row-b.Row)<<20 + a.Col - b.Col })
	s := 0.0
	for _, here := range all {
		for _, v := range told[here] {
			if v.Kind == api.VErr {
				return v
			}
		}
		s = add(s, of(told[here]))
	}
	return reckoned(s)
}

func inPairs(of func(x, y float64) float64) func(m taken) api.Value {
	return func(m taken) api.Value {
		return overPlaces(m, api.ENA, func(l []api.Value) float64 {
			if l[0].Kind == api.VNum && l[1].Kind == api.VNum {
				return of(l[0].Num, l[1].Num)
			}
			return 0
		})
	}
}

// romanOf writes place by place, from tables of the digits of each.
func romanOf(n int) string {
	out := ""
	for i, digits := range []string{" M MM MMM", " C CC CCC CD D DC DCC DCCC CM", " X XX XXX XL L LX LXX LXXX XC", " I II III IV V VI VII VIII IX"} {
		tens := []int{1000, 100, 10, 1}[i]
		out += strings.Split(digits, " ")[n/tens%10]
	}
	return out
}

// romans are all numbers by their Roman digits.
var romans = sync.OnceValue(func() map[string]int {
	out := map[string]int{}
	for n := range 4000 {
		out[romanOf(n)] = n
	}
	return out
})

func digitPlans() map[string]plan {
	return map[string]plan{
		"BASE": {"n n n=0", func(m taken) api.Value {
			n, k, least := m.x[0], m.x[1], m.x[2]
			if k < 2 || k > 36 || n < 0 || least < 0 || least > 255 {
				return fault(6)
			}
			digits := strings.ToUpper(whole(n).Text(int(k)))
			for len(digits) < int(least) {
				digits = "0" + digits
			}
			return text(digits)
		}},
		"DECIMAL": {"t n", func(m taken) api.Value {
			t, k := strings.ToLower(m.t[0]), m.x[1]
			if k < 2 || k > 36 {
				return fault(6)
			}
			if strings.Trim(m.t[0], "0123456789abcdefghijklmnopqrstuvwxyzABCDEFGHIJKLMNOPQRSTUVWXYZ") != "" {
				return fault(3)
			}
			n, is := new(big.Int).SetString(t, int(k))
			if !is {
				return fault(3)
			}
			if n.Cmp(big.NewInt(1<<53)) > 0 {
				return fault(6)
			}
			return num(floatOf(n))
		}},
		"ROMAN": {"n", func(m taken) api.Value {
			if m.x[0] < 0 || m.x[0] > 3999 {
				return fault(3)
			}
			return text(romanOf(int(m.x[0])))
		}},
		"ARABIC": {"t", func(m taken) api.Value {
			if n, is := romans()[upper(m.t[0])]; is {
				return num(float64(n))
			}
			return fault(3)
		}},
	}
}

// upper is a text with the large letters of ASCII for the small ones.
func upper(s string) string {
	return strings.Map(func(r rune) rune {
		if r >= 'a' && r <= 'z' {
			r -= 'a' - 'A'
		}
		return r
	}, s)
}
