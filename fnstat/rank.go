package fnstat

import (
	"slices"

	"gridiron/api"
	"gridiron/array"
	"gridiron/given"
	"gridiron/value"
)

// atRank has of numbers in an order the k-th.
func atRank(order func(x, y float64) int) func(l []float64, k float64) api.Value {
	return func(l []float64, k float64) api.Value {
		if k < 1 || k > float64(len(l)) {
			return value.Err(api.ENum)
		}
		return value.Num(sorted(l, order)[int(k)-1])
	}
}

// rank is the place of a number among those of an area, from the greatest one on, or from the least.
func rank(args []api.Arg) api.Value {
	x := given.Number(args[0])
	if x.Kind == api.VErr {
		return x
	}
	l, wrong := numbersOf(false, args[1])
	if wrong != 0 {
		return value.Err(wrong)
	}
	order := falling
	if len(args) > 2 {
		o := given.Number(args[2])
		if o.Kind == api.VErr {
			return o
		}
		if o.Num != 0 {
			order = rising
		}
	}
	at, is := slices.BinarySearchFunc(sorted(l, order), x.Num, order)
	if !is {
		return value.Err(api.ENA)
	}
	return value.Num(float64(1 + at))
}

// percentile is what stands at a part of the way through sorted numbers, 0 being the first of them and 1 the last.
func percentile(l []float64, p float64) api.Value {
	if len(l) == 0 || p < 0 || p > 1 {
		return value.Err(api.ENum)
	}
	s := sorted(l, rising)
	h := float64(p * float64(len(s)-1))
	k := int(h)
	if k+1 == len(s) {
		return value.Num(s[k])
	}
	return value.Reckon(s[k] + float64((h-float64(k))*(s[k+1]-s[k])))
}

func quartile(l []float64, q float64) api.Value {
	return percentile(l, q/4)
}

// percentRank is the part of the way through sorted numbers at which a number stands, between two of them, too.
func percentRank(l []float64, x float64) api.Value {
	if len(l) == 0 || x < slices.Min(l) || x > slices.Max(l) {
		return value.Err(api.ENA)
	}
	if len(l) == 1 {
		return value.Num(1)
	}
	s := sorted(l, rising)
	i, is := slices.BinarySearch(s, x)
	way := float64(i)
	if !is {
		way = float64(i-1) + (x-s[i-1])/(s[i]-s[i-1])
	}
	return value.Reckon(way / float64(len(s)-1))
}

// trimmed is the mean of sorted numbers without a part of them, half of that at each end.
func trimmed(l []float64, p float64) api.Value {
	if len(l) == 0 || p < 0 || p >= 1 {
		return value.Err(api.ENum)
	}
	k := int(float64(p*float64(len(l))) / 2)
	return value.Reckon(Mean(sorted(l, rising)[k : len(l)-k]))
}

// standardize is how far a number is off a mean, in standard deviations.
func standardize(args []api.Arg) api.Value {
	var l []float64
	for _, a := range args {
		v := given.Number(a)
		if v.Kind == api.VErr {
			return v
		}
		l = append(l, v.Num)
	}
	if l[2] <= 0 {
		return value.Err(api.ENum)
	}
	return value.Reckon((l[0] - l[1]) / l[2])
}

// frequency is how many numbers are not above each bin, and above all lesser ones; and at last how many are above all bins.
func frequency(args []api.Arg) api.Arr {
	l, wrong := numbersOf(false, args[0])
	if wrong != 0 {
		return array.One(value.Err(wrong))
	}
	bins, wrong := numbersOf(false, args[1])
	if wrong != 0 {
		return array.One(value.Err(wrong))
	}
	if len(bins)+1 > api.MaxArea {
		return array.One(value.Err(api.ELimit))
	}
	bins = sorted(bins, rising)
	counts := make([]int, len(bins)+1)
	for _, x := range l {
		bin, _ := slices.BinarySearch(bins, x)
		counts[bin]++
	}
	out := api.Arr{Rows: len(counts), Cols: 1}
	for _, n := range counts {
		out.Vals = append(out.Vals, value.Num(float64(n)))
	}
	return out
}
