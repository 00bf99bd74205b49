package fnstat

import (
	"math"
	"slices"

	"gridiron/api"
	"gridiron/value"
)

// greatest is 0 of none.
func greatest(l []float64) float64 {
	if len(l) == 0 {
		return 0
	}
	return slices.Max(l)
}

// least is 0 of none.
func least(l []float64) float64 {
	if len(l) == 0 {
		return 0
	}
	return slices.Min(l)
}

// deviation is the mean of how far numbers are off their mean.
func deviation(l []float64) float64 {
	return Mean(each(off(l), math.Abs))
}

// variance has the squares of what numbers are off their mean by how many there are, less some.
func variance(less int) func(l []float64) float64 {
	return func(l []float64) float64 { return Square(l) / float64(len(l)-less) }
}

func median(l []float64) float64 {
	s := sorted(l, rising)
	half := len(s) / 2
	if len(s)%2 == 1 {
		return s[half]
	}
	return (s[half-1] + s[half]) / 2
}

// mode is the number that stands among others most often, at least twice; of several the one that comes first.
func mode(l []float64) api.Value {
	times := map[float64]int{}
	most := 1
	for _, x := range l {
		times[x]++
		most = max(most, times[x])
	}
	if most == 1 {
		return value.Err(api.ENA)
	}
	first := slices.IndexFunc(l, func(x float64) bool { return times[x] == most })
	return value.Num(l[first])
}

// harmonic is how many numbers there are by the sum of what 1 is by each of them; no number, if one is not above 0.
func harmonic(l []float64) float64 {
	if slices.Min(l) <= 0 {
		return math.NaN()
	}
	return float64(len(l)) / Sum(each(l, func(x float64) float64 { return 1 / x }))
}
