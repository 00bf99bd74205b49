package refs_test

import (
	"fmt"
	"math/big"
	"strconv"
	"strings"
	"unicode/utf8"

	"gridiron/api"
)

// draws is a row of numbers that look drawn, the same in each run.
type draws uint64

func (d *draws) next() uint64 {
	*d = *d*6364136223846793005 + 1442695040888963407
	high := uint64(*d) >> 32
	*d = *d*6364136223846793005 + 1442695040888963407
	return high<<32 | uint64(*d)>>32
}

func (d *draws) below(n int) int {
	return int(d.next() >> 1 % uint64(n))
}

func (d *draws) yes() bool {
	return d.below(2) == 1
}

// sheet is a sheet's name, with quotes or without, sometimes as long as one may be.
func (d *draws) sheet() string {
	all := []rune("aZ_09qQ")
	if d.yes() {
		all = []rune("aZ_09 .$-!\"#é€\U0001F600\uFFFD\U0010FFFF\x7F")
	}
	most := []int{1, 3, 9, 70}[d.below(4)]
	out := ""
	for range 1 + d.below(most) {
		if more := out + string(all[d.below(len(all))]); len(more) <= api.MaxName {
			out = more
		}
	}
	return out
}

func (d *draws) corner() api.Corner {
	rows := []int{3, 1000, api.MaxRows}[d.below(3)]
	cols := []int{3, 60, api.MaxCols}[d.below(3)]
	c := api.Corner{Row: d.below(rows), Col: d.below(cols), AbsRow: d.yes(), AbsCol: d.yes()}
	if d.below(8) == 0 {
		c.Row = api.MaxRows - 1 - c.Row
		c.Col = api.MaxCols - 1 - c.Col
	}
	return c
}

// ref is a reference that may be.
func (d *draws) ref() api.Ref {
	r := api.Ref{A: d.corner(), Area: d.yes()}
	if r.Area {
		r.B = d.corner()
	}
	if d.yes() {
		r.Sheet, r.Fixed = d.sheet(), d.yes()
		if r.Area && d.yes() {
			r.To = d.sheet()
		}
	}
	return r
}

// spoiled is a text with a byte left out, put in or changed.
func (d *draws) spoiled(s string) string {
	const likely = "AZaz09_$$'..:: [*\x1F\x7F\x80\xC3\xFF"
	at, sign := d.below(len(s)+1), string(likely[d.below(len(likely))])
	switch end := min(at+1, len(s)); d.below(3) {
	case 0:
		return s[:at] + s[end:]
	case 1:
		return s[:at] + sign + s[end:]
	}
	return s[:at] + sign + s[at:]
}

// modelColumn is the letters of a number of any size, beyond the last column too.
func modelColumn(n *big.Int) string {
	out, base, one := "", big.NewInt(26), big.NewInt(1)
	left := new(big.Int).Add(n, one)
	for left.Sign() > 0 {
		var digit big.Int
		left.DivMod(left.Sub(left, one), base, &digit)
		out = string(rune('A'+digit.Int64())) + out
	}
	return out
}

// modelParseColumn goes through all columns.
func modelParseColumn(s string) (int, bool) {
	if len(s) > 3 {
		return 0, false
	}
	n, ok := columnsByLetters[s]
	return n, ok
}

var columnsByLetters = func() map[string]int {
	out := map[string]int{}
	for n := range api.MaxCols {
		out[modelColumn(big.NewInt(int64(n)))] = n
	}
	return out
}()

func modelSheetName(s string) bool {
	for _, sign := range []string{"[", "]", "*", "?", ":", "/", "\\", "'", "\uFFFE", "\uFFFF"} {
		if strings.Contains(s, sign) {
			return false
		}
	}
	for _, b := range []byte(s) {
		if b < 32 {
			return false
		}
	}
	return len(s) > 0 && len(s) < 65 && utf8.ValidString(s)
}

// modelWord tells whether a name needs no quotes.
func modelWord(s string) bool {
	const letters = "ABCDEFGHIJKLMNOPQRSTUVWXYZabcdefghijklmnopqrstuvwxyz_"
	return s != "" && strings.Trim(s, letters+"0123456789") == "" && strings.Contains(letters, s[:1])
}

func modelQuote(s string) (string, api.Errno) {
	if !modelSheetName(s) {
		return "", api.ErrSheet
	}
	if modelWord(s) {
		return s, api.OK
	}
	return fmt.Sprintf("'%s'", s), api.OK
}

func modelCheck(r api.Ref) api.Errno {
	out := func(c api.Corner) bool {
		return c.Row < 0 || c.Row > 1048575 || c.Col < 0 || c.Col > 1023
	}
	wrongSheet := r.Sheet != "" && !modelSheetName(r.Sheet) || r.To != "" && !modelSheetName(r.To) || r.To != "" && r.Sheet == "" || r.Fixed && r.Sheet == ""
	if wrongSheet {
		return api.ErrSheet
	}
	if out(r.A) || r.Area && out(r.B) {
		return api.ErrAddr
	}
	if !r.Area && (r.To != "" || r.B.Row != 0 || r.B.Col != 0 || r.B.AbsRow || r.B.AbsCol) {
		return api.ErrAddr
	}
	return api.OK
}

func modelText(r api.Ref) (string, api.Errno) {
	if errno := modelCheck(r); errno != api.OK {
		return "", errno
	}
	sign := map[bool]string{true: "$"}
	corner := func(c api.Corner) string {
		return fmt.Sprintf(".%s%s%s%d", sign[c.AbsCol], modelColumn(big.NewInt(int64(c.Col))), sign[c.AbsRow], c.Row+1)
	}
	sheet, _ := modelQuote(r.Sheet)
	to, _ := modelQuote(r.To)
	out := sign[r.Fixed] + sheet + corner(r.A)
	if r.Area {
		out = fmt.Sprintf("%s:%s%s", out, to, corner(r.B))
	}
	return out, api.OK
}

// The states in which modelParse is, each named by what stands ahead.
const (
	atStart = iota
	atDollar
	inName
	inQuotes
	atQuote
	atPoint
	atColDollar
	inCol
	atRowDollar
	inRow
	atColon
	atEnd
)

// machine is a text that is gone through byte by byte, from state to state.
type machine struct {
	s      string
	state  int
	begin  int // where the name, the column or the row begins
	second bool
	ref    api.Ref
	at     int
	errno  api.Errno
}

// modelParse is the reference that a text says, or the place and the error of the first thing that can't be so.
func modelParse(s string) (api.Ref, int, api.Errno) {
	m := machine{s: s}
	for at := 0; at <= len(s); at++ {
		sign := "" // behind the end
		if at < len(s) {
			sign = s[at : at+1]
		}
		if m.leave(at, sign); m.errno == api.OK {
			m.enter(at, sign)
		}
		if m.errno != api.OK {
			return api.Ref{}, m.at, m.errno
		}
	}
	return m.ref, 0, api.OK
}

func (m *machine) fail(at int, errno api.Errno) {
	m.at, m.errno = at, errno
}

func isOf(sign, kind string) bool {
	return sign != "" && strings.Contains(kind, sign)
}

const (
	capitals = "ABCDEFGHIJKLMNOPQRSTUVWXYZ"
	digits   = "0123456789"
	words    = capitals + digits + "abcdefghijklmnopqrstuvwxyz_"
)

func (m *machine) corner() *api.Corner {
	if m.second {
		return &m.ref.B
	}
	return &m.ref.A
}

// leave judges a part that ends ahead of a sign.
func (m *machine) leave(at int, sign string) {
	part := m.s[m.begin:at]
	switch {
	case m.state == inName && !isOf(sign, words):
		m.named(part, modelWord(part) && len(part) <= 64)
	case m.state == inQuotes && sign == "'":
		m.named(part[1:], modelSheetName(part[1:]) && !modelWord(part[1:]))
	case m.state == inCol && !isOf(sign, capitals):
		n, ok := modelParseColumn(part)
		m.corner().Col = n
		if !ok {
			m.fail(m.begin, api.ErrAddr)
		}
	case m.state == inRow && !isOf(sign, digits):
		n, _ := new(big.Int).SetString(part, 10)
		m.corner().Row = int(n.Int64()) - 1
		if part[0] == '0' || n.Cmp(big.NewInt(api.MaxRows)) > 0 {
			m.fail(m.begin, api.ErrAddr)
		}
	}
}

func (m *machine) named(name string, ok bool) {
	switch {
	case !ok:
		m.fail(m.begin, api.ErrSheet)
	case m.second && m.ref.Sheet == "":
		m.fail(m.begin, api.ErrAddr)
	case m.second:
		m.ref.To = name
	default:
		m.ref.Sheet = name
	}
}

// enter goes to the state in which a sign brings the machine.
func (m *machine) enter(at int, sign string) {
	name := m.state == atStart || m.state == atDollar || m.state == atColon
	column := m.state == atPoint || m.state == atColDollar
	row := m.state == inCol || m.state == atRowDollar
	switch {
	case m.state == inQuotes && sign != "" && sign != "'", m.state == inName && isOf(sign, words), m.state == inCol && isOf(sign, capitals), m.state == inRow && isOf(sign, digits):
		// on with it
	case m.state == inQuotes && sign == "'":
		m.state = atQuote
	case m.state == atStart && sign == "$":
		m.state, m.ref.Fixed = atDollar, true
	case name && sign == "'":
		m.state, m.begin = inQuotes, at
	case name && isOf(sign, words):
		m.state, m.begin = inName, at
	case sign == "." && (m.state == atStart || m.state == atColon || m.state == inName || m.state == atQuote):
		m.state = atPoint
	case m.state == atPoint && sign == "$":
		m.state, m.corner().AbsCol = atColDollar, true
	case column && isOf(sign, capitals):
		m.state, m.begin = inCol, at
	case m.state == inCol && sign == "$":
		m.state, m.corner().AbsRow = atRowDollar, true
	case row && isOf(sign, digits):
		m.state, m.begin = inRow, at
	case m.state == inRow && sign == ":" && !m.second:
		m.state, m.second, m.ref.Area = atColon, true, true
	case m.state == inRow && sign == "":
		m.state = atEnd
	default:
		m.fail(at, api.ErrAddr)
	}
}

// cellsOf are the cells of a reference with small corners, one by one.
func cellsOf(r api.Ref) map[api.Cell]bool {
	out := map[api.Cell]bool{}
	if !r.Area {
		out[api.Cell{Row: r.A.Row, Col: r.A.Col}] = true
		return out
	}
	for row := min(r.A.Row, r.B.Row); row <= max(r.A.Row, r.B.Row); row++ {
		for col := min(r.A.Col, r.B.Col); col <= max(r.A.Col, r.B.Col); col++ {
			out[api.Cell{Row: row, Col: col}] = true
		}
	}
	return out
}

// told is anything as a text.
func told(x any) string {
	return fmt.Sprintf("%+v", x)
}

// short is a text as it is told in a report.
func short(s string) string {
	if len(s) > 90 {
		return strconv.Quote(s[:90]) + ".."
	}
	return strconv.Quote(s)
}
