package fnmath

import (
	"gridiron/api"
	"gridiron/given"
	"gridiron/value"
)

func sum(l ...float64) api.Value {
	total := 0.0
	for _, x := range l {
		total += x
	}
	return value.Reckon(total)
}

// product is 0 of none.
func product(l ...float64) api.Value {
	if len(l) == 0 {
		return value.Num(0)
	}
	p := 1.0
	for _, x := range l {
		p *= x
	}
	return value.Reckon(p)
}

func squares(l ...float64) api.Value {
	total := 0.0
	for _, x := range l {
		total += float64(x * x)
	}
	return value.Reckon(total)
}

// series is the sum of numbers, each times a power of x: the n-th, and then always k more.
func series(args []api.Arg) api.Value {
	v, wrong, is := singles(args, number(), whole(), whole())
	if !is {
		return wrong
	}
	l, wrong, is := given.Numbers(args[3])
	if !is {
		return wrong
	}
	x, n, k := v[0].Num, v[1].Num, v[2].Num
	total := 0.0
	for i, c := range l {
		p := power(x, n+float64(float64(i)*k))
		if p.Kind == api.VErr {
			return p
		}
		total += float64(c * p.Num)
	}
	return value.Reckon(total)
}
