package shift

import "gridiron/api"

// band is the rows or columns of a sheet that come or go.
type band struct {
	at     int
	n      int
	limit  int
	come   bool
	across bool // they are columns
}

// bandOf is what comes or goes by a shift, if it is rows or columns.
func bandOf(x api.Shift) (band, bool) {
	b := band{at: x.At, n: x.N}
	switch x.Kind {
	case api.SInsRows, api.SDelRows:
		b.limit = api.MaxRows
	case api.SInsCols, api.SDelCols:
		b.limit = api.MaxCols
		b.across = true
	default:
		return band{}, false
	}
	b.come = x.Kind == api.SInsRows || x.Kind == api.SInsCols
	return b, true
}

// fits tells whether all of them lie within a sheet.
func (b band) fits() bool {
	// a difference, since at and n together may leave their type
	return b.n >= 1 && b.at >= 0 && b.at <= b.limit-b.n
}

// moved is where a row or column lies behind the shift, if it does not go.
func (b band) moved(line int) (int, bool) {
	switch {
	case line < b.at:
		return line, true
	case b.come:
		return line + b.n, line+b.n < b.limit
	}
	return line - b.n, line >= b.at+b.n
}

// span is what becomes of all from first to last, if they do not all go.
func (b band) span(first, last int) (int, int, bool) {
	from, begins := b.moved(first)
	to, ends := b.moved(last)
	if !begins && !ends {
		// what comes pushes the last one out ahead of the first one; what goes has no gap
		return 0, 0, false
	}
	if !begins {
		from = b.at
	}
	if !ends {
		to = b.end()
	}
	return from, to, true
}

// end is where what is left of an area ends, if its last row or column goes.
func (b band) end() int {
	if b.come {
		return b.limit - 1
	}
	return b.at - 1
}

// touches tells whether something comes in between first and last, or one of these goes.
func (b band) touches(first, last int) bool {
	switch {
	case last < b.at:
		return false
	case b.come:
		return first < b.at || last+b.n >= b.limit
	}
	return first < b.at+b.n
}

// line is the row or column of a corner.
func (b band) line(c *api.Corner) *int {
	if b.across {
		return &c.Col
	}
	return &c.Row
}

// ends are the least and the greatest row or column of a reference, where they stand in it: one and the same of a cell.
func (b band) ends(r *api.Ref) (*int, *int) {
	first, last := b.line(&r.A), b.line(&r.B)
	switch {
	case !r.Area:
		return first, first
	case *last < *first:
		return last, first
	}
	return first, last
}

// ref is what becomes of a reference to the sheet on which they come or go, if it does not go.
func (b band) ref(r api.Ref) (api.Ref, bool) {
	first, last := b.ends(&r)
	from, to, stays := b.span(*first, *last)
	if !stays {
		return api.Ref{}, false
	}
	*first, *last = from, to
	return r, true
}
