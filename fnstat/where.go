package fnstat

import (
	"gridiron/api"
	"gridiron/array"
	"gridiron/given"
	"gridiron/value"
)

// where is areas of one size, each with the criterion that its places are to meet.
type where struct {
	areas    []api.Arg
	criteria []criterion
}

// asked is what pairs of an area and a criterion ask for, each area being as large as another one; or an error.
func asked(size api.Arg, args []api.Arg) (where, api.Value) {
	if len(args)%2 == 1 {
		return where{}, value.Err(api.EValue)
	}
	var out where
	for i := 0; i < len(args); i += 2 {
		if args[i].Rows != size.Rows || args[i].Cols != size.Cols {
			return where{}, value.Err(api.EValue)
		}
		out.areas = append(out.areas, args[i])
	}
	for i := 1; i < len(args); i += 2 {
		c := array.Single(args[i])
		if c.Kind == api.VErr {
			return where{}, c
		}
		out.criteria = append(out.criteria, asCriterion(c))
	}
	return out, api.Value{}
}

// met tells whether the areas' values at a place meet the criteria, each its own.
func (w where) met(v []api.Value) bool {
	for i, c := range w.criteria {
		if !c.met(v[i]) {
			return false
		}
	}
	return true
}

// countIfs is how many places meet what is asked for.
func countIfs(args []api.Arg) api.Value {
	w, wrong := asked(args[0], args)
	if wrong.Kind == api.VErr {
		return wrong
	}
	told, n := 0, 0
	for v := range given.Places(w.areas...) {
		told++
		if w.met(v) {
			n++
		}
	}
	// all places of which nothing is told meet it, or none of them
	if w.met(make([]api.Value, len(w.areas))) {
		n += args[0].Rows*args[0].Cols - told
	}
	return value.Num(float64(n))
}

// numbers are an area's numbers at the places that meet what is asked for; or the first error at such a place.
func (w where) numbers(area api.Arg) ([]float64, api.Value) {
	var out []float64
	for v := range given.Places(append([]api.Arg{area}, w.areas...)...) {
		first := v[0]
		if first.Kind != api.VNum && first.Kind != api.VErr || !w.met(v[1:]) {
			continue
		}
		if first.Kind == api.VErr {
			return nil, first
		}
		out = append(out, first.Num)
	}
	return out, api.Value{}
}

// ifAll is what a function makes of an area's numbers where other areas, as large as it, meet each its criterion.
func ifAll(f func(l []float64) api.Value) func(args []api.Arg) api.Value {
	return func(args []api.Arg) api.Value {
		w, wrong := asked(args[0], args[1:])
		if wrong.Kind == api.VErr {
			return wrong
		}
		l, wrong := w.numbers(args[0])
		if wrong.Kind == api.VErr {
			return wrong
		}
		return f(l)
	}
}

// ifOne is what a function makes of an area's numbers where it, or another area from its corner on, meets a criterion.
func ifOne(f func(l []float64) api.Value) func(args []api.Arg) api.Value {
	return func(args []api.Arg) api.Value {
		from := args[0]
		if len(args) > 2 && !args[2].Miss {
			from = sizedAs(args[0], args[2])
		}
		return ifAll(f)([]api.Arg{from, args[0], args[1]})
	}
}

// sizedAs is what an area tells, from its corner on, of the places of another one's size.
func sizedAs(size, area api.Arg) api.Arg {
	out := api.Arg{Rows: size.Rows, Cols: size.Cols}
	for _, p := range area.Cells {
		if p.Row < size.Rows && p.Col < size.Cols {
			out.Cells = append(out.Cells, p)
		}
	}
	return out
}
