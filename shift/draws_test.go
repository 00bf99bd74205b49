package shift_test

import (
	"strings"

	"gridiron/api"
)

// draws looks drawn, and is the same in each run.
type draws uint64

// below is a number from 0 on below n.
func (d *draws) below(n int) int {
	x := uint64(*d)
	x ^= x << 13
	x ^= x >> 7
	x ^= x << 17
	*d = draws(x)
	return int(x * 0x2545F4914F6CDD1D >> 33 % uint64(n))
}

func (d *draws) yes() bool {
	return d.below(2) > 0
}

func pick[T any](d *draws, from ...T) T {
	return from[d.below(len(from))]
}

// pool are names of sheets, all unlike.
func pool() []string {
	return []string{"a", "B", "c", "D", "Sheet1", "SHEET2", "x y", "é", "É", "sS", "ß", "1", "_", "\u212A", "k", "a.b", "$", "~!", "\U0001F600", "@", "`", strings.Repeat("n", api.MaxName), strings.Repeat("n", api.MaxName-1), "e1", "e2", "e3", "e4", "e5", "e6", "e7", "e8", "e9", "f0", "f1"}
}

// sheets are unlike names that sheets may have, one at the least.
func (d *draws) sheets() []string {
	out := pool()
	for i := range out {
		j := d.below(i + 1)
		out[i], out[j] = out[j], out[i]
	}
	return out[:pick(d, 1, 2, 3, 3, 4, 4, 5, 6, 31, 32)]
}

// letters is a name with some letters in other letters.
func (d *draws) letters(name string) string {
	out := []byte(name)
	for i, b := range out {
		if (b|32 >= 'a' && b|32 <= 'z') && d.yes() {
			out[i] = b ^ 32
		}
	}
	return string(out)
}

// name is mostly one of the sheets', in some letters.
func (d *draws) name(sheets []string) string {
	switch d.below(30) {
	case 0:
		return pick(d, "x:y", "'", "\xff", strings.Repeat("n", api.MaxName+1))
	case 1, 2, 3, 4:
		return d.letters(pick(d, pool()...))
	}
	return d.letters(pick(d, sheets[:min(len(sheets), 5)]...))
}

// line is mostly a number near an end of a shift's or near an end of a sheet.
func (d *draws) line(x api.Shift, limit int) int {
	if d.below(8) == 0 {
		return d.below(limit)
	}
	near := pick(d, 0, x.At, x.At+x.N, limit-x.N, limit-1, x.At-x.N, x.At+x.N/2)
	return max(0, min(limit-1, near+d.below(7)-3))
}

// shift is mostly one that may be.
func (d *draws) shift(sheets []string) api.Shift {
	x := api.Shift{Kind: 1 + d.below(8), Sheet: d.name(sheets), Name: d.name(sheets)}
	limit, lines := limitOf(x.Kind)
	if !lines {
		x.At = d.below(len(sheets)+3) - 1
		if d.below(3) > 0 {
			x.Name = pick(d, "new", "x:y", "NEW", "sheet1", "n w")
		}
		return x
	}
	x.At = pick(d, 0, 1, 5, 100, limit/2, limit-100, limit-2, limit-1, d.below(limit))
	x.N = pick(d, 1, 1, 2, 3, 10, 99, limit/4, limit-x.At, limit-x.At-1, limit)
	if d.below(40) == 0 {
		x.At = pick(d, -1, limit, -1<<63, 1<<63-1)
	}
	return x
}

func (d *draws) corner(x api.Shift) api.Corner {
	return api.Corner{Row: d.line(x, api.MaxRows), Col: d.line(x, api.MaxCols), AbsRow: d.yes(), AbsCol: d.yes()}
}

// ref is mostly a reference that may be.
func (d *draws) ref(sheets []string, x api.Shift) api.Ref {
	r := api.Ref{A: d.corner(x), Area: d.below(3) > 0}
	if r.Area {
		r.B = d.corner(x)
		if d.below(5) == 0 {
			r.B.Row, r.B.Col = r.A.Row, pick(d, r.A.Col, r.B.Col)
		}
	}
	switch d.below(4) {
	case 0:
	case 1:
		r.Sheet, r.Fixed = d.letters(x.Sheet), d.yes()
	default:
		r.Sheet, r.Fixed = d.name(append([]string{x.Sheet, x.Name}, sheets...)), d.yes()
	}
	if r.Area && r.Sheet != "" && d.yes() {
		r.To = d.name(append([]string{x.Sheet, x.Name}, sheets...))
	}
	switch d.below(60) {
	case 0:
		r.A.Row = pick(d, -1, api.MaxRows)
	case 1:
		r.B.Col++
	case 2:
		r.To = "a"
	}
	return r
}

// address is mostly a cell of one of the sheets, most often of the shift's.
func (d *draws) address(sheets []string, x api.Shift) api.Addr {
	a := api.Addr{Sheet: d.below(len(sheets)), Row: d.line(x, api.MaxRows), Col: d.line(x, api.MaxCols)}
	if d.yes() {
		a.Sheet = modelFind(sheets, x.Sheet)
	}
	switch d.below(60) {
	case 0:
		a.Sheet = pick(d, -1, len(sheets))
	case 1:
		a.Row = pick(d, -1, api.MaxRows)
	case 2:
		a.Col = pick(d, -1, api.MaxCols)
	}
	return a
}

// term is any term of about so many parts, most of them references.
func (d *draws) term(sheets []string, x api.Shift, parts int) api.Term {
	t := api.Term{Op: d.below(28) - 1, Num: float64(d.below(3)), Text: pick(d, "", "t"), Err: d.below(3), Name: pick(d, "", "F"), Rows: d.below(2)}
	if d.yes() {
		t.Op = api.NRef
	}
	if d.yes() {
		t.Ref = d.ref(sheets, x)
	}
	for parts > 1 {
		n := 1 + d.below(parts-1)
		t.Args = append(t.Args, d.term(sheets, x, n))
		parts -= n
	}
	return t
}
