package fnmath

import (
	"math"

	"gridiron/api"
)

// chosen is the function with a name, if there is one.
func chosen(name string, env api.Env) (function, bool) {
	for _, f := range []function{ofNumbers(name), ofWholes(name), ofLists(name), ofDraws(name, env)} {
		if f.answer != nil {
			return f, true
		}
	}
	return function{}, false
}

// ofNumbers is the function with a name, if it is one of numbers of any kind.
func ofNumbers(name string) function {
	switch name {
	case "ABS":
		return one(plain(math.Abs), number())
	case "SIGN":
		return one(plain(sign), number())
	case "INT":
		return one(plain(math.Floor), number())
	case "EVEN":
		return one(toParity(0), number())
	case "ODD":
		return one(toParity(1), number())
	case "SQRT":
		return one(root, number())
	case "TRUNC", "ROUNDDOWN":
		return two(rounded(math.Floor), number(), wholeOr(0))
	case "ROUND":
		return two(rounded(halfUp), number(), wholeOr(0))
	case "ROUNDUP":
		return two(roundedUp, number(), wholeOr(0))
	case "MROUND":
		return two(multiple, number(), number())
	case "CEILING":
		return two(steps(math.Ceil), number(), numberOr(1))
	case "FLOOR":
		return two(steps(math.Floor), number(), numberOr(1))
	case "MOD":
		return two(divided(remainder), number(), number())
	case "QUOTIENT":
		return two(divided(quotient), number(), number())
	case "POWER":
		return two(power, number(), number())
	case "GESTEP":
		return two(told(notBelow), number(), numberOr(0))
	case "DELTA":
		return two(told(equal), number(), numberOr(0))
	}
	return function{}
}

// ofWholes is the function with a name, if it is one of whole numbers, their bits or their digits.
func ofWholes(name string) function {
	switch name {
	case "FACT":
		return one(factorial(1, 0, mostFactor), whole())
	case "FACTDOUBLE":
		return one(factorial(2, -1, mostDouble), whole())
	case "COMBIN":
		return two(combinations, whole(), whole())
	case "COMBINA":
		return two(repeated, whole(), whole())
	case "PERMUT":
		return two(permutations, whole(), whole())
	case "PERMUTATIONA":
		return two(tuples, whole(), whole())
	case "BITAND":
		return two(bitwise(and), whole(), whole())
	case "BITOR":
		return two(bitwise(or), whole(), whole())
	case "BITXOR":
		return two(bitwise(xor), whole(), whole())
	case "BITLSHIFT":
		return two(shifted(1), whole(), whole())
	case "BITRSHIFT":
		return two(shifted(-1), whole(), whole())
	case "BASE":
		return of(base, whole(), whole(), wholeOr(0))
	case "DECIMAL":
		return of(decimal, text(), whole())
	case "ROMAN":
		return one(roman, whole())
	case "ARABIC":
		return of(arabic, text())
	}
	return function{}
}

// ofLists is the function with a name, if it is one of many numbers.
func ofLists(name string) function {
	switch name {
	case "GCD":
		return list(divisor)
	case "LCM":
		return list(leastMultiple)
	case "MULTINOMIAL":
		return list(multinomial)
	case "SUM":
		return list(sum)
	case "PRODUCT":
		return list(product)
	case "SUMSQ":
		return list(squares)
	case "SUMPRODUCT":
		return areas(1, api.MaxArgs, api.EValue, products)
	case "SUMX2MY2":
		return areas(2, 2, api.ENA, pairs(squaresLess))
	case "SUMX2PY2":
		return areas(2, 2, api.ENA, pairs(squaresMore))
	case "SUMXMY2":
		return areas(2, 2, api.ENA, pairs(squareOfLess))
	case "SERIESSUM":
		return function{4, 4, series}
	}
	return function{}
}

// ofDraws is the function with a name, if it is one that draws.
func ofDraws(name string, env api.Env) function {
	switch name {
	case "RAND":
		return of(drawn(draw(env)))
	case "RANDBETWEEN":
		return two(drawnBetween(draw(env)), whole(), whole())
	}
	return function{}
}
