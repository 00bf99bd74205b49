package syntax_test

import (
	"fmt"
	"math"
	"slices"
	"strconv"
	"strings"

	"gridiron/api"
	"gridiron/lexis"
	"gridiron/number"
	"gridiron/refs"
	"gridiron/value"
)

func num(x float64) api.Term {
	return api.Term{Op: api.NNum, Num: x}
}

func text(s string) api.Term {
	return api.Term{Op: api.NText, Text: s}
}

func failure(n int) api.Term {
	return api.Term{Op: api.NErr, Err: n}
}

func name(s string) api.Term {
	return api.Term{Op: api.NName, Name: s}
}

// ref is a reference by its text without brackets.
func ref(s string) api.Term {
	r, _, errno := refs.Parse(s)
	if errno != api.OK {
		panic(s)
	}
	return api.Term{Op: api.NRef, Ref: r}
}

func call(name string, args ...api.Term) api.Term {
	return api.Term{Op: api.NCall, Name: name, Args: args}
}

func array(rows int, items ...api.Term) api.Term {
	return api.Term{Op: api.NArray, Rows: rows, Args: items}
}

func miss() api.Term {
	return api.Term{Op: api.NMiss}
}

// op is an operator's term of one operand or two.
func op(op int, operands ...api.Term) api.Term {
	return api.Term{Op: op, Args: operands}
}

// sign is an operator between two operands.
type sign struct {
	text  string
	op    int
	level int
}

// everyBetween are the operators between two operands, by the lines of the grammar.
func everyBetween() []sign {
	return []sign{
		{"=", api.NEq, 1}, {"<>", api.NNe, 1}, {"<", api.NLt, 1}, {"<=", api.NLe, 1}, {">", api.NGt, 1}, {">=", api.NGe, 1},
		{"&", api.NCat, 2},
		{"+", api.NAdd, 3}, {"-", api.NSub, 3},
		{"*", api.NMul, 4}, {"/", api.NDiv, 4},
		{"^", api.NPow, 5},
		{"~", api.NUnion, 8},
		{"!", api.NCommon, 9},
	}
}

// fault is what is wrong with a text; one without an error is none.
type fault struct {
	at    int
	errno api.Errno
}

var none fault

// model reads a formula line by line of the grammar, and answers what is wrong step by step.
type model struct {
	tokens []api.Lexeme
	n      int
	end    int
}

func modelParse(s string) (api.Term, int, api.Errno) {
	tokens, at, errno := lexis.Tokens(s)
	if errno != api.OK {
		return api.Term{}, at, errno
	}
	m := &model{tokens: tokens, end: len(s)}
	if !m.on("=") {
		return api.Term{}, m.at(), api.ErrSyntax
	}
	m.n++
	out, f := m.term(1)
	if f == none && m.n < len(m.tokens) {
		f = m.wrong()
	}
	if f != none {
		return api.Term{}, f.at, f.errno
	}
	return out, 0, api.OK
}

func (m *model) at() int {
	if m.n >= len(m.tokens) {
		return m.end
	}
	return m.tokens[m.n].At
}

func (m *model) wrong() fault {
	return fault{m.at(), api.ErrSyntax}
}

func (m *model) on(signs ...string) bool {
	return m.n < len(m.tokens) && m.tokens[m.n].Kind == api.LSign && slices.Contains(signs, m.tokens[m.n].Text)
}

func (m *model) of(kind int) bool {
	return m.n < len(m.tokens) && m.tokens[m.n].Kind == kind
}

// deep is what is wrong, if an operand at a depth begins here.
func (m *model) deep(depth int) fault {
	if depth <= api.MaxDepth {
		return none
	}
	if m.n >= len(m.tokens) {
		return fault{m.end, api.ErrSyntax}
	}
	return fault{m.at(), api.ErrNested}
}

type part func(depth int) (api.Term, fault)

// left is a line whose operators stand between operands.
func (m *model) left(depth int, next part, ops map[string]int) (api.Term, fault) {
	out, f := next(depth)
	for k := 1; f == none; k++ {
		if !m.of(api.LSign) {
			break
		}
		o, ok := ops[m.tokens[m.n].Text]
		if !ok {
			break
		}
		m.n++
		if f = m.deep(depth + k); f != none {
			break
		}
		var second api.Term
		second, f = next(depth + k)
		out = op(o, out, second)
	}
	return out, f
}

func (m *model) term(depth int) (api.Term, fault) {
	if f := m.deep(depth); f != none {
		return api.Term{}, f
	}
	return m.left(depth, m.cat, map[string]int{"=": api.NEq, "<>": api.NNe, "<": api.NLt, "<=": api.NLe, ">": api.NGt, ">=": api.NGe})
}

func (m *model) cat(depth int) (api.Term, fault) {
	return m.left(depth, m.sum, map[string]int{"&": api.NCat})
}

func (m *model) sum(depth int) (api.Term, fault) {
	return m.left(depth, m.prod, map[string]int{"+": api.NAdd, "-": api.NSub})
}

func (m *model) prod(depth int) (api.Term, fault) {
	return m.left(depth, m.pow, map[string]int{"*": api.NMul, "/": api.NDiv})
}

func (m *model) pow(depth int) (api.Term, fault) {
	return m.left(depth, m.per, map[string]int{"^": api.NPow})
}

func (m *model) per(depth int) (api.Term, fault) {
	out, f := m.pre(depth)
	for k := 1; f == none && m.on("%"); k++ {
		if f = m.deep(depth + k); f == none {
			m.n++
			out = op(api.NPer, out)
		}
	}
	return out, f
}

func (m *model) pre(depth int) (api.Term, fault) {
	if !m.on("+", "-") {
		return m.union(depth)
	}
	o := map[string]int{"+": api.NPlus, "-": api.NNeg}[m.tokens[m.n].Text]
	m.n++
	if f := m.deep(depth + 1); f != none {
		return api.Term{}, f
	}
	of, f := m.pre(depth + 1)
	return op(o, of), f
}

func (m *model) union(depth int) (api.Term, fault) {
	return m.left(depth, m.common, map[string]int{"~": api.NUnion})
}

func (m *model) common(depth int) (api.Term, fault) {
	return m.left(depth, m.prime, map[string]int{"!": api.NCommon})
}

func (m *model) prime(depth int) (api.Term, fault) {
	if m.n >= len(m.tokens) {
		return api.Term{}, m.wrong()
	}
	x := m.tokens[m.n]
	switch {
	case x.Kind == api.LNum:
		m.n++
		return num(x.Num), none
	case x.Kind == api.LText:
		m.n++
		return text(x.Text), none
	case x.Kind == api.LErr:
		m.n++
		return failure(x.Err), none
	case x.Kind == api.LRef:
		m.n++
		return api.Term{Op: api.NRef, Ref: x.Ref}, none
	case x.Kind == api.LName:
		m.n++
		if !m.on("(") {
			return name(x.Text), none
		}
		m.n++
		args, f := m.args(depth + 1)
		return call(modelCapitals(x.Text), args...), f
	case x.Text == "(":
		m.n++
		out, f := m.term(depth + 1)
		if f == none && !m.on(")") {
			f = m.wrong()
		}
		m.n++
		return out, f
	case x.Text == "{":
		m.n++
		return m.array()
	}
	return api.Term{}, m.wrong()
}

func modelCapitals(s string) string {
	b := []byte(s)
	for i, c := range b {
		if 'a' <= c && c <= 'z' {
			b[i] = c - 'a' + 'A'
		}
	}
	return string(b)
}

func (m *model) args(depth int) ([]api.Term, fault) {
	if m.on(")") {
		m.n++
		return nil, none
	}
	var out []api.Term
	for {
		if len(out) == api.MaxArgs {
			return nil, fault{m.at(), api.ErrMany}
		}
		if m.on(";", ")") {
			out = append(out, miss())
		} else {
			x, f := m.term(depth)
			if f != none {
				return nil, f
			}
			out = append(out, x)
		}
		if m.on(")") {
			m.n++
			return out, none
		}
		if !m.on(";") {
			return nil, m.wrong()
		}
		m.n++
	}
}

func (m *model) array() (api.Term, fault) {
	out := array(0)
	width := -1
	for {
		long := 0
		for {
			x, f := m.item()
			if f != none {
				return api.Term{}, f
			}
			out.Args = append(out.Args, x)
			long++
			if !m.on(";") || long == width {
				break
			}
			m.n++
		}
		out.Rows++
		if width < 0 {
			width = long
		}
		if long < width || !m.on("|", "}") {
			return api.Term{}, m.wrong()
		}
		closed := m.on("}")
		m.n++
		if closed {
			return out, none
		}
	}
}

func (m *model) item() (api.Term, fault) {
	negative := m.on("-")
	if negative {
		m.n++
	}
	if m.n >= len(m.tokens) {
		return api.Term{}, m.wrong()
	}
	x := m.tokens[m.n]
	var out api.Term
	switch {
	case x.Kind == api.LNum && negative && x.Num != 0:
		out = num(-x.Num)
	case x.Kind == api.LNum:
		out = num(x.Num)
	case negative:
		return api.Term{}, m.wrong()
	case x.Kind == api.LText:
		out = text(x.Text)
	case x.Kind == api.LErr:
		out = failure(x.Err)
	case x.Kind == api.LName && strings.EqualFold(x.Text, "true"):
		out = call("TRUE")
	case x.Kind == api.LName && strings.EqualFold(x.Text, "false"):
		out = call("FALSE")
	default:
		return api.Term{}, m.wrong()
	}
	m.n++
	return out, none
}

// modelLevel is how closely an operation binds.
func modelLevel(op int) int {
	for _, s := range everyBetween() {
		if s.op == op {
			return s.level
		}
	}
	switch op {
	case api.NPer:
		return 6
	case api.NPlus, api.NNeg:
		return 7
	}
	return 10
}

// written is a term as a formula without =, with the parentheses that the grammar needs; of a term that may not be it is anything.
func written(t api.Term) string {
	within := func(x api.Term, needs bool) string {
		if needs {
			return "(" + written(x) + ")"
		}
		return written(x)
	}
	level := modelLevel(t.Op)
	for _, s := range everyBetween() {
		if s.op == t.Op && len(t.Args) == 2 {
			first, second := t.Args[0], t.Args[1]
			return within(first, modelLevel(first.Op) < level) + s.text + within(second, modelLevel(second.Op) <= level)
		}
	}
	if level < 10 && len(t.Args) != 1 {
		return "?"
	}
	switch t.Op {
	case api.NPer:
		return within(t.Args[0], modelLevel(t.Args[0].Op) < 6) + "%"
	case api.NPlus:
		return "+" + within(t.Args[0], modelLevel(t.Args[0].Op) < 7)
	case api.NNeg:
		return "-" + within(t.Args[0], modelLevel(t.Args[0].Op) < 7)
	case api.NNum:
		s, _ := number.Text(t.Num)
		return s
	case api.NText:
		return `"` + strings.ReplaceAll(t.Text, `"`, `""`) + `"`
	case api.NErr:
		return value.ErrText(t.Err)
	case api.NRef:
		s, _ := refs.Text(t.Ref)
		return "[" + s + "]"
	case api.NName:
		return t.Name
	case api.NCall:
		return t.Name + "(" + listed(t.Args, len(t.Args)) + ")"
	case api.NArray:
		if t.Rows < 1 || len(t.Args)%t.Rows != 0 {
			return "?"
		}
		return "{" + strings.ReplaceAll(listed(t.Args, len(t.Args)/t.Rows), "()", "") + "}"
	case api.NMiss:
		return ""
	}
	return "?"
}

// listed are terms with ; between those of a row of so many, and | between rows.
func listed(l []api.Term, width int) string {
	var out strings.Builder
	for i, x := range l {
		if i > 0 && i%width == 0 {
			out.WriteByte('|')
		} else if i > 0 {
			out.WriteByte(';')
		}
		out.WriteString(written(x))
	}
	return out.String()
}

// modelCheck tells whether a term is what its own text says; it holds for terms whose texts fit into a formula.
func modelCheck(t api.Term) bool {
	back, _, errno := modelParse("=" + written(t))
	return errno == api.OK && alike(back, t)
}

// alike tells whether two terms are the same, by their bits.
func alike(a, b api.Term) bool {
	if !alikeButArgs(a, b) || len(a.Args) != len(b.Args) {
		return false
	}
	for i := range a.Args {
		if !alike(a.Args[i], b.Args[i]) {
			return false
		}
	}
	return true
}

func alikeButArgs(a, b api.Term) bool {
	bits := math.Float64bits(a.Num) == math.Float64bits(b.Num)
	return bits && a.Op == b.Op && a.Text == b.Text && a.Err == b.Err && a.Name == b.Name && a.Ref == b.Ref && a.Rows == b.Rows
}

// told is a term for a report.
func told(t api.Term) string {
	if len(t.Args) > 40 {
		return fmt.Sprintf("op %d of %d Args", t.Op, len(t.Args))
	}
	out := strconv.Itoa(t.Op)
	for op, word := range map[int]string{api.NNum: "num", api.NText: "text", api.NErr: "err", api.NRef: "ref", api.NName: "name", api.NCall: "call", api.NArray: "array", api.NMiss: "miss"} {
		if op == t.Op {
			out = word
		}
	}
	for _, s := range everyBetween() {
		if s.op == t.Op {
			out = s.text
		}
	}
	if !alikeButArgs(t, api.Term{Op: t.Op}) {
		out += fmt.Sprintf("<%v %s %d %s %+v %d>", t.Num, short(t.Text), t.Err, short(t.Name), t.Ref, t.Rows)
	}
	for i, x := range t.Args {
		out += []string{"(", ", "}[min(i, 1)] + told(x)
	}
	if len(t.Args) > 0 {
		out += ")"
	}
	return short(out)
}

// short is a text for a report.
func short(s string) string {
	if len(s) > 200 {
		return strconv.Quote(s[:80]) + ".." + strconv.Quote(s[len(s)-60:]) + " of " + strconv.Itoa(len(s)) + " bytes"
	}
	return strconv.Quote(s)
}
