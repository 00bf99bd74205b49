package shift_test

import (
	"fmt"
	"slices"

	"gridiron/api"
	"gridiron/refs"
)

// modelAlike tells whether two names are the same, byte by byte, but for bit 5 of the letters.
func modelAlike(a, b string) bool {
	if len(a) != len(b) {
		return false
	}
	for i := range len(a) {
		letter := a[i]|32 >= 'a' && a[i]|32 <= 'z'
		if a[i] != b[i] && !(letter && a[i]^b[i] == 32) {
			return false
		}
	}
	return true
}

// modelFind goes through all sheets from the last one on; -1, if there is none.
func modelFind(sheets []string, name string) int {
	out := -1
	for i := len(sheets) - 1; i >= 0; i-- {
		if modelAlike(name, sheets[i]) {
			out = i
		}
	}
	return out
}

// wrong is something that may be wrong with a shift.
type wrong struct {
	is    bool
	errno api.Errno
}

// limitOf is how many rows or columns there are, and whether a shift is one of them.
func limitOf(kind int) (int, bool) {
	limit, is := map[int]int{api.SInsRows: 1048576, api.SDelRows: 1048576, api.SInsCols: 1024, api.SDelCols: 1024}[kind]
	return limit, is
}

func modelCheck(sheets []string, x api.Shift) api.Errno {
	own, named := modelFind(sheets, x.Sheet), modelFind(sheets, x.Name)
	noSheet := wrong{own < 0, api.ErrNone}
	noName := wrong{!refs.SheetName(x.Name), api.ErrShift}
	var all []wrong
	switch limit, lines := limitOf(x.Kind); {
	case lines:
		// two numbers from 0 on do not leave the greater type
		beyond := uint64(x.At)+uint64(x.N) > uint64(limit)
		all = []wrong{noSheet, {x.N <= 0 || x.At < 0 || beyond, api.ErrShift}}
	case x.Kind == api.SInsSheet:
		all = []wrong{{x.At < 0 || x.At > len(sheets), api.ErrShift}, noName, {named >= 0, api.ErrTwice}, {len(sheets) > 31, api.ErrFull}}
	case x.Kind == api.SDelSheet:
		all = []wrong{noSheet, {len(sheets) == 1, api.ErrFull}}
	case x.Kind == api.SMoveSheet:
		all = []wrong{noSheet, {x.At < 0 || x.At >= len(sheets), api.ErrShift}}
	case x.Kind == api.SNameSheet:
		all = []wrong{noSheet, noName, {named >= 0 && named != own, api.ErrTwice}}
	default:
		return api.ErrShift
	}
	for _, w := range all {
		if w.is {
			return w.errno
		}
	}
	return api.OK
}

// model is a book whose sheets, rows and columns go where a shift that may be brings them, one by one.
type model struct {
	sheets []string
	x      api.Shift
	own    int      // the shift's sheet, -1: none
	names  []string // behind the shift
	places []int    // where each sheet lies behind it, -1: it goes
	lines  []int    // where each row or column of the sheet lies, -1: it goes
	next   []int    // where the first one lies that remains, from each one on, -1: none does
	last   []int    // where the last one lies that remains, up to each one
}

func modelOf(sheets []string, x api.Shift) *model {
	m := &model{sheets: sheets, x: x, own: modelFind(sheets, x.Sheet)}
	m.order()
	if limit, is := limitOf(x.Kind); is {
		m.walk(limit)
	}
	return m
}

// order puts the sheets, by their numbers, in the order behind the shift; -1 is a new one.
func (m *model) order() {
	var order []int
	for i := range m.sheets {
		if m.x.Kind == api.SInsSheet && m.x.At == i {
			order = append(order, -1)
		}
		if i != m.own || m.x.Kind != api.SDelSheet && m.x.Kind != api.SMoveSheet {
			order = append(order, i)
		}
	}
	switch {
	case m.x.Kind == api.SInsSheet && m.x.At == len(m.sheets):
		order = append(order, -1)
	case m.x.Kind == api.SMoveSheet:
		order = slices.Concat(order[:m.x.At], []int{m.own}, order[m.x.At:])
	}
	for i := range m.sheets {
		m.places = append(m.places, slices.Index(order, i))
	}
	for _, i := range order {
		switch {
		case i < 0 || m.x.Kind == api.SNameSheet && i == m.own:
			m.names = append(m.names, m.x.Name)
		default:
			m.names = append(m.names, m.sheets[i])
		}
	}
}

// walk goes through all rows or columns of the sheet.
func (m *model) walk(limit int) {
	come := m.x.Kind == api.SInsRows || m.x.Kind == api.SInsCols
	m.lines, m.next, m.last = make([]int, limit), make([]int, limit), make([]int, limit)
	place, last := 0, -1
	for line := range limit {
		if come && line == m.x.At {
			place += m.x.N
		}
		goes := !come && line >= m.x.At && line-m.x.At < m.x.N
		if goes || place >= limit {
			m.lines[line] = -1
		} else {
			m.lines[line], last = place, place
		}
		m.last[line] = last
		if !goes {
			place++
		}
	}
	next := -1
	for line := limit - 1; line >= 0; line-- {
		if m.lines[line] >= 0 {
			next = m.lines[line]
		}
		m.next[line] = next
	}
}

func (m *model) across() bool {
	return m.x.Kind == api.SInsCols || m.x.Kind == api.SDelCols
}

func (m *model) cell(a api.Addr) (api.Addr, bool) {
	if a.Sheet < 0 || a.Sheet >= len(m.sheets) || a.Row < 0 || a.Row > 1048575 || a.Col < 0 || a.Col > 1023 {
		return api.Addr{}, false
	}
	out := a
	if out.Sheet = m.places[a.Sheet]; out.Sheet < 0 {
		return api.Addr{}, false
	}
	if m.lines == nil || a.Sheet != m.own {
		return out, true
	}
	line := &out.Row
	if m.across() {
		line = &out.Col
	}
	if *line = m.lines[*line]; *line < 0 {
		return api.Addr{}, false
	}
	return out, true
}

// ends are the two rows or columns of a reference, as they stand there.
func (m *model) ends(r api.Ref) (int, int) {
	if !r.Area {
		r.B = r.A
	}
	if m.across() {
		return r.A.Col, r.B.Col
	}
	return r.A.Row, r.B.Row
}

// on tells whether a reference without To is to the shift's sheet.
func (m *model) on(own string, r api.Ref) bool {
	if r.Sheet != "" {
		own = r.Sheet
	}
	return r.To == "" && modelAlike(own, m.x.Sheet)
}

// among are the numbers of the sheets of a reference with To, if both are there.
func (m *model) among(r api.Ref) []int {
	from, to := modelFind(m.sheets, r.Sheet), modelFind(m.sheets, r.To)
	var out []int
	for i := range m.sheets {
		if r.To != "" && from >= 0 && to >= 0 && (from <= i && i <= to || to <= i && i <= from) {
			out = append(out, i)
		}
	}
	return out
}

func (m *model) ref(own string, r api.Ref) (api.Ref, bool) {
	isSheet, isTo := modelAlike(r.Sheet, m.x.Sheet), modelAlike(r.To, m.x.Sheet)
	switch {
	case refs.Check(r) != api.OK:
		return r, true
	case m.lines != nil && m.on(own, r):
		return m.lined(r)
	case m.x.Kind == api.SNameSheet && isSheet && isTo:
		r.Sheet, r.To = m.x.Name, m.x.Name
	case m.x.Kind == api.SNameSheet && isSheet:
		r.Sheet = m.x.Name
	case m.x.Kind == api.SNameSheet && isTo:
		r.To = m.x.Name
	case m.x.Kind == api.SDelSheet && (isSheet || isTo):
		left := slices.DeleteFunc(m.among(r), func(i int) bool { return i == m.own })
		if len(left) == 0 {
			return api.Ref{}, false
		}
		if isSheet {
			r.Sheet = m.nearest(left)
		} else {
			r.To = m.nearest(left)
		}
	}
	return r, true
}

// nearest is the name of the sheet that is nearest to the shift's.
func (m *model) nearest(l []int) string {
	distance := func(i int) int { return max(i-m.own, m.own-i) }
	return m.sheets[slices.MinFunc(l, func(i, j int) int { return distance(i) - distance(j) })]
}

// lined is what becomes of a reference to the sheet whose rows or columns come or go.
func (m *model) lined(r api.Ref) (api.Ref, bool) {
	first, second := m.ends(r)
	least, most := min(first, second), max(first, second)
	a, b := m.next[least], m.last[most]
	if m.x.Kind == api.SInsRows || m.x.Kind == api.SInsCols {
		a, b = m.lines[least], m.lines[most]
		if b < 0 {
			b = len(m.lines) - 1
		}
	}
	// what remains ahead of least and behind most is no part of it
	if a < 0 || a > b {
		return api.Ref{}, false
	}
	if first > second {
		a, b = b, a
	}
	if m.across() {
		r.A.Col = a
	} else {
		r.A.Row = a
	}
	switch {
	case r.Area && m.across():
		r.B.Col = b
	case r.Area:
		r.B.Row = b
	}
	return r, true
}

func (m *model) touches(own string, r api.Ref) bool {
	if refs.Check(r) != api.OK {
		return false
	}
	first, second := m.ends(r)
	least, most := min(first, second), max(first, second)
	switch {
	case m.lines != nil && r.To != "":
		// some row of it, or ahead of it, is not where it was
		return slices.Contains(m.among(r), m.own) && m.lines[most] != most
	case m.lines != nil:
		a, b := m.lines[least], m.lines[most]
		return m.on(own, r) && (a < 0 || b < 0 || b-a != most-least)
	case m.x.Kind == api.SInsSheet:
		return r.To != "" || modelAlike(r.Sheet, m.x.Name)
	case m.x.Kind == api.SMoveSheet:
		return r.To != ""
	case m.x.Kind == api.SDelSheet:
		return modelAlike(r.Sheet, m.x.Sheet) || modelAlike(r.To, m.x.Sheet) || slices.Contains(m.among(r), m.own)
	}
	return modelFind(m.sheets, m.x.Name) < 0 && (modelAlike(r.Sheet, m.x.Name) || modelAlike(r.To, m.x.Name))
}

// term is what becomes of a term, which may be nested but not deep.
func (m *model) term(own string, t api.Term) api.Term {
	if t.Op == api.NRef {
		r, stays := m.ref(own, t.Ref)
		if !stays {
			return api.Term{Op: api.NErr, Err: 4}
		}
		t.Ref = r
	}
	var args []api.Term
	for _, x := range t.Args {
		args = append(args, m.term(own, x))
	}
	t.Args = args
	return t
}

// told is anything as a text.
func told(x any) string {
	return fmt.Sprintf("%+v", x)
}
