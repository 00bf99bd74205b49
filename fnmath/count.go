package fnmath

import (
	"math"

	"gridiron/api"
	"gridiron/value"
)

// The greatest numbers of which factorials, and those by two and two, are finite.
const (
	mostFactor = 170
	mostDouble = 300
)

// mostChosen is of how many things some are chosen at most.
const mostChosen = 1000

// factorial is n * (n - step) * .. of numbers from least to most.
func factorial(step, least, most int) func(n float64) api.Value {
	return func(n float64) api.Value {
		if n < float64(least) || n > float64(most) {
			return noNumber()
		}
		return value.Reckon(factors(int(n), step))
	}
}

// factors is the product of n, n - step, .. as far as they are above 0, the lesser ones first.
func factors(n, step int) float64 {
	r := 1.0
	for i := 1; i <= n; i++ {
		if (n-i)%step == 0 {
			r *= float64(i)
		}
	}
	return r
}

// canChoose tells whether k of n things can be chosen; n isn't below 0 then, either.
func canChoose(n, k float64) bool { return k >= 0 && k <= n }

// combinations is in how many ways k of n things are chosen.
func combinations(n, k float64) api.Value {
	if !canChoose(n, k) || n > mostChosen {
		return noNumber()
	}
	k = min(k, n-k)
	r := 1.0
	for i := 1.0; i <= k; i++ {
		r = float64(r*(n-k+i)) / i
	}
	return value.Reckon(r)
}

// repeated is in how many ways k of n things are chosen, each of them any number of times.
func repeated(n, k float64) api.Value {
	switch {
	case !canChoose(n, k):
		return noNumber()
	case n == 0:
		return value.Num(1)
	}
	return combinations(n+k-1, k)
}

// permutations is in how many ways k of n things are put in a row.
func permutations(n, k float64) api.Value {
	if !canChoose(n, k) || n > mostChosen {
		return noNumber()
	}
	r := 1.0
	for i := range int(k) {
		r *= n - float64(i)
	}
	return value.Reckon(r)
}

// tuples is in how many ways k of n things are put in a row, each of them any number of times.
func tuples(n, k float64) api.Value {
	if n < 0 || k < 0 || k > mostChosen {
		return noNumber()
	}
	r := 1.0
	for range int(k) {
		r *= n
	}
	return value.Reckon(r)
}

// multinomial is in how many ways things of some kinds are put in a row, so many of each kind.
func multinomial(l ...float64) api.Value {
	all := 0.0
	for _, x := range l {
		if x < 0 {
			return noNumber()
		}
		all += math.Floor(x)
	}
	if all > mostFactor {
		return noNumber()
	}
	r := factors(int(all), 1)
	for _, x := range l {
		r /= factors(int(x), 1)
	}
	return value.Reckon(r)
}

// mostWhole is the greatest number of which divisors and multiples are told.
const mostWhole = 1 << 53

// wholes are numbers without what stands behind their points, if none is below 0 or too great.
func wholes(l []float64) ([]int, bool) {
	var out []int
	for _, x := range l {
		n := math.Floor(x)
		if n < 0 || n > mostWhole {
			return nil, false
		}
		out = append(out, int(n))
	}
	return out, true
}

// divisor is the greatest common divisor; that of noughts is 0.
func divisor(l ...float64) api.Value {
	all, is := wholes(l)
	if !is {
		return noNumber()
	}
	d := 0
	for _, n := range all {
		d = common(d, n)
	}
	return value.Num(float64(d))
}

// common is the greatest common divisor of two numbers.
func common(n, k int) int {
	for k != 0 {
		n, k = k, n%k
	}
	return n
}

// leastMultiple is the least common multiple.
func leastMultiple(l ...float64) api.Value {
	all, is := wholes(l)
	if !is {
		return noNumber()
	}
	m := 1
	for _, n := range all {
		if n == 0 {
			return value.Num(0)
		}
		part := n / common(m, n)
		// a quotient, since the product may leave its type
		if m > mostWhole/part {
			return noNumber()
		}
		m *= part
	}
	return value.Num(float64(m))
}
