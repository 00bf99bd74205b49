package shift

import (
	"strings"

	"gridiron/api"
	"gridiron/refs"
	"gridiron/syntax"
)

// Ref is what becomes of a reference in a formula of the sheet own; false: it becomes the error ERef.
func Ref(sheets []string, x api.Shift, own string, r api.Ref) (api.Ref, bool) {
	return changeOf(sheets, x, own).ref(r)
}

// Term is what becomes of a term in a formula of the sheet own.
func Term(sheets []string, x api.Shift, own string, t api.Term) api.Term {
	c := changeOf(sheets, x, own)
	out := syntax.Clone(t)
	walk(&out, func(t *api.Term) {
		if t.Op != api.NRef {
			return
		}
		r, stays := c.ref(t.Ref)
		if !stays {
			*t = api.Term{Op: api.NErr, Err: api.ERef}
			return
		}
		t.Ref = r
	})
	return out
}

// walk goes through a term and what is in it, each ahead of its Args.
func walk(t *api.Term, visit func(*api.Term)) {
	visit(t)
	for i := range t.Args {
		walk(&t.Args[i], visit)
	}
}

// Touches tells whether a shift changes what a reference has of cells otherwise than by moving all of them.
func Touches(sheets []string, x api.Shift, own string, r api.Ref) bool {
	c := changeOf(sheets, x, own)
	return c.may && refs.Check(r) == api.OK && c.touches(r)
}

// change is a shift as the references in one sheet's formulas meet it.
type change struct {
	sheets []string
	shift  api.Shift
	may    bool // the shift may be
	home   bool // the formulas' own sheet is the shift's
}

func changeOf(sheets []string, x api.Shift, own string) change {
	return change{sheets, x, Check(sheets, x) == api.OK, Alike(own, x.Sheet)}
}

// ref is what becomes of a reference, in memory of its own, if it does not go.
func (c change) ref(r api.Ref) (api.Ref, bool) {
	out, stays := r, true
	if c.may && refs.Check(r) == api.OK {
		out, stays = c.changed(r)
	}
	if !stays {
		return api.Ref{}, false
	}
	out.Sheet, out.To = strings.Clone(out.Sheet), strings.Clone(out.To)
	return out, true
}

// changed is what a shift that may be makes of a reference that may be, if it does not go.
func (c change) changed(r api.Ref) (api.Ref, bool) {
	switch c.shift.Kind {
	case api.SDelSheet:
		return c.without(r)
	case api.SNameSheet:
		return c.named(r), true
	}
	if b, lines := bandOf(c.shift); lines && r.To == "" && c.onSheet(r) {
		return b.ref(r)
	}
	return r, true
}

// onSheet tells whether a reference to one sheet is to the shift's.
func (c change) onSheet(r api.Ref) bool {
	if r.Sheet == "" {
		return c.home
	}
	return Alike(r.Sheet, c.shift.Sheet)
}

// named is a reference with the sheet's new name.
func (c change) named(r api.Ref) api.Ref {
	if Alike(r.Sheet, c.shift.Sheet) {
		r.Sheet = c.shift.Name
	}
	if Alike(r.To, c.shift.Sheet) {
		r.To = c.shift.Name
	}
	return r
}

// without is what becomes of a reference when the sheet goes, if it does not go with it.
func (c change) without(r api.Ref) (api.Ref, bool) {
	first, last := Alike(r.Sheet, c.shift.Sheet), Alike(r.To, c.shift.Sheet)
	stays := true
	switch {
	case r.To == "":
		return r, r.Sheet == "" || !first
	case first && last:
		return r, false
	case first:
		r.Sheet, stays = c.beside(r.To)
	case last:
		r.To, stays = c.beside(r.Sheet)
	}
	return r, stays
}

// beside is the sheet next to the shift's on the side of another one, if that one is there.
func (c change) beside(other string) (string, bool) {
	own, _ := Find(c.sheets, c.shift.Sheet)
	at, is := Find(c.sheets, other)
	switch {
	case !is:
		return "", false
	case at < own:
		return c.sheets[own-1], true
	}
	return c.sheets[own+1], true
}

// touches is Touches of a shift that may be and a reference that may be.
func (c change) touches(r api.Ref) bool {
	x := c.shift
	switch x.Kind {
	case api.SInsSheet:
		return r.To != "" || Alike(r.Sheet, x.Name)
	case api.SDelSheet:
		return Alike(r.Sheet, x.Sheet) || Alike(r.To, x.Sheet) || r.To != "" && c.among(r)
	case api.SMoveSheet:
		return r.To != ""
	case api.SNameSheet:
		_, is := Find(c.sheets, x.Name)
		return !is && (Alike(r.Sheet, x.Name) || Alike(r.To, x.Name))
	}
	b, _ := bandOf(x)
	first, last := b.ends(&r)
	if r.To != "" {
		// such a reference is left as it is, so that all cells that move under it change what it has
		return c.among(r) && b.at <= *last
	}
	return c.onSheet(r) && b.touches(*first, *last)
}

// among tells whether the shift's sheet is one of those from a reference's first sheet to its last one, in whatever order these stand.
func (c change) among(r api.Ref) bool {
	first, begins := Find(c.sheets, r.Sheet)
	last, ends := Find(c.sheets, r.To)
	if !begins || !ends {
		return false
	}
	own, _ := Find(c.sheets, c.shift.Sheet)
	return min(first, last) <= own && own <= max(first, last)
}
