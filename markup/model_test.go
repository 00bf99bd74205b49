package markup_test

import (
	"math/big"
	"regexp"
	"strings"
	"unicode/utf8"

	"gridiron/api"
	"gridiron/chars"
)

// The model is told a document character by character: each state is handed one character and answers the state that follows.
// Nothing is looked at ahead of its time, but for the word DOCTYPE, so that what is found first is what is told.

type state func(m *model, c rune) state

type model struct {
	doc   string // as it came
	at    int    // the place of the character that is told
	open  int    // the place of the last < that began something
	begun bool   // whether there is an element
	idle  bool   // whether the document may end here, if its element has

	name   string // the name that is being told, and where it begins
	nameAt int
	value  string
	start  modelStart
	stack  []modelElement

	run    string // the characters of the Text that is being told
	text   string // what has been said since the last token
	textAt int    // or -1

	tokens []api.Token
	wrong  bool
	place  int
	errno  api.Errno
}

type modelAttr struct {
	name  string
	at    int
	value string
}

type modelStart struct {
	at    int
	name  string
	attrs []modelAttr
	slash int // or -1
}

type modelElement struct {
	name, space, local string
	spaces             map[string]string
}

// modelTokens are the tokens up to the first thing that is wrong; its place; and what it is.
func modelTokens(doc string) ([]api.Token, int, api.Errno) {
	m := &model{doc: doc, textAt: -1}
	valid := modelValid(doc)
	next := state(modelFirst)
	i := 0
	if strings.HasPrefix(doc, "\xEF\xBB\xBF") {
		i = 3
	}
	for i < valid && !m.wrong {
		c, width := utf8.DecodeRuneInString(doc[i:])
		if strings.HasPrefix(doc[i:], "\r\n") {
			width = 2
		}
		if c == '\r' {
			c = '\n'
		}
		m.at, m.idle = i, false
		next = next(m, c)
		i += width
	}
	switch {
	case m.wrong:
	case valid < len(doc):
		m.fail(valid, api.ErrEncoding)
	case !m.begun:
		m.fail(len(doc), api.ErrMarkup)
	case !m.idle:
		m.fail(len(doc), api.ErrEnd)
	}
	return m.tokens, m.place, m.errno
}

// modelValid is how many bytes come ahead of the first one that is no character of XML.
func modelValid(doc string) int {
	i := 0
	for i < len(doc) {
		c, width := utf8.DecodeRuneInString(doc[i:])
		if width == 1 && c == utf8.RuneError || c < 32 && c != 9 && c != 10 && c != 13 || c == 0xFFFE || c == 0xFFFF {
			break
		}
		i += width
	}
	return i
}

func (m *model) fail(at int, errno api.Errno) state {
	m.wrong, m.place, m.errno = true, at, errno
	return nil
}

// stray is the answer to a character with which nothing goes on.
func (m *model) stray() state {
	return m.fail(m.at, api.ErrMarkup)
}

func modelSpace(c rune) bool {
	return c == ' ' || c == '\t' || c == '\n'
}

// rest is the answer where a comment or the like has ended.
func (m *model) rest() state {
	if len(m.stack) > 0 {
		return modelContent
	}
	m.idle = true
	return modelOutside
}

// literally goes through the rest of a word.
func literally(word string, then func(m *model) state) state {
	return func(m *model, c rune) state {
		switch {
		case string(c) != word[:1]:
			return m.stray()
		case len(word) == 1:
			return then(m)
		}
		return literally(word[1:], then)
	}
}

var (
	beginsDeclaration = regexp.MustCompile(`^<\?xml[ \t\r\n]`)
	beginsEncoding    = regexp.MustCompile(`encoding ?= ?["']$`)
)

// modelFirst is the state at the document's first character.
func modelFirst(m *model, c rune) state {
	if beginsDeclaration.MatchString(m.doc[m.at:]) {
		return modelDeclaration("<")
	}
	return modelOutside(m, c)
}

// declarations are all beginnings of declarations, with one blank for many spaces and nothing for an encoding.
var declarations = func() map[string]bool {
	set := map[string]bool{}
	grow([]string{""}, set, [][]string{
		{"<?xml "}, {"version"}, {"=", " =", "= ", " = "}, {`"1.0"`, `'1.0'`},
		{"", " encoding=``", " encoding =``", " encoding= ``", " encoding = ``"},
		{"", " standalone=Q", " standalone =Q", " standalone= Q", " standalone = Q"},
		{"", " "}, {"?>"},
	})
	return set
}()

// grow puts all beginnings of what can be put together into a set: “ are two quotes of either kind, Q is yes or no between them.
func grow(ahead []string, set map[string]bool, parts [][]string) {
	for _, part := range parts {
		var longer []string
		for _, a := range ahead {
			for _, p := range part {
				longer = append(longer, quotings(a+p)...)
			}
		}
		ahead = longer
	}
	for _, a := range ahead {
		for i := range len(a) + 1 {
			set[a[:i]] = true
		}
	}
}

func quotings(s string) []string {
	var all []string
	for _, q := range []string{`"`, `'`} {
		for _, word := range []string{"yes", "no"} {
			all = append(all, strings.ReplaceAll(strings.ReplaceAll(s, "``", q+q), "Q", q+word+q))
		}
	}
	if all[0] == all[3] {
		return all[:1]
	}
	return all
}

// modelDeclaration is the state within a declaration, of which so much has come.
func modelDeclaration(come string) state {
	return func(m *model, c rune) state {
		if modelSpace(c) && strings.HasSuffix(come, " ") {
			return modelDeclaration(come)
		}
		longer := come + string(c)
		if modelSpace(c) {
			longer = come + " "
		}
		switch {
		case !declarations[longer]:
			return m.stray()
		case strings.HasSuffix(longer, "?>"):
			return m.rest()
		case beginsEncoding.MatchString(longer):
			m.value = ""
			at := m.at + 1
			return modelValue(c, func(m *model) state {
				if !strings.EqualFold(m.value, "utf-8") {
					return m.fail(at, api.ErrEncoding)
				}
				return modelDeclaration(longer + string(c))
			})
		}
		return modelDeclaration(longer)
	}
}

func modelOutside(m *model, c rune) state {
	m.open = m.at
	switch {
	case modelSpace(c):
		return m.rest()
	case c == '<':
		return modelOutsideBracket
	}
	return m.stray()
}

func modelOutsideBracket(m *model, c rune) state {
	switch {
	case c == '!':
		return modelBang
	case c == '?':
		return modelQuestion
	case chars.NameStart(c) && !m.begun:
		return m.beginning(c)
	}
	return m.stray()
}

func modelBang(m *model, c rune) state {
	switch {
	case c == '-':
		return literally("-", func(m *model) state { return modelComment(0) })
	case c == '[' && len(m.stack) > 0:
		return literally("CDATA[", func(m *model) state {
			m.said(m.open, "")
			return modelCdata("")
		})
	case strings.HasPrefix(m.doc[m.open:], "<!DOCTYPE"):
		return m.fail(m.open, api.ErrDoctype)
	}
	return m.stray()
}

// modelComment is the state behind so many signs - .
func modelComment(dashes int) state {
	return func(m *model, c rune) state {
		switch {
		case dashes == 2 && c == '>':
			return m.rest()
		case dashes == 2:
			return m.stray()
		case c == '-':
			return modelComment(dashes + 1)
		}
		return modelComment(0)
	}
}

// modelCdata is the state within a Cdata, of which so much has come.
func modelCdata(come string) state {
	return func(m *model, c rune) state {
		come += string(c)
		if said, ended := strings.CutSuffix(come, "]]>"); ended {
			m.said(m.open, said)
			return m.rest()
		}
		return modelCdata(come)
	}
}

func modelQuestion(m *model, c rune) state {
	if !chars.NameStart(c) {
		return m.stray()
	}
	m.name, m.nameAt = string(c), m.at
	return modelTarget
}

func modelTarget(m *model, c rune) state {
	switch {
	case chars.NameChar(c):
		m.name += string(c)
		return modelTarget
	case strings.EqualFold(m.name, "xml"):
		return m.fail(m.nameAt, api.ErrMarkup)
	case modelSpace(c):
		return modelInstruction(false)
	case c == '?':
		return literally(">", (*model).rest)
	}
	return m.stray()
}

func modelInstruction(question bool) state {
	return func(m *model, c rune) state {
		if question && c == '>' {
			return m.rest()
		}
		return modelInstruction(c == '?')
	}
}

// modelName is the state within a name, with so many colons in it; then is handed the character behind it.
func modelName(colons int, then state) state {
	return func(m *model, c rune) state {
		first := m.name == "" || strings.HasSuffix(m.name, ":")
		switch {
		case chars.NameStart(c), !first && chars.NameChar(c):
			m.name += string(c)
			return modelName(colons, then)
		case c == ':' && colons == 0 && !first:
			m.name += ":"
			return modelName(1, then)
		case first:
			return m.stray()
		}
		return then(m, c)
	}
}

// beginning is the answer to the first character of an element's name.
func (m *model) beginning(c rune) state {
	m.begun = true
	m.start = modelStart{at: m.open, slash: -1}
	m.name = string(c)
	return modelName(0, func(m *model, c rune) state {
		m.start.name = m.name
		return modelTag(false)(m, c)
	})
}

// modelTag is the state within a beginning, behind a space or not.
func modelTag(spaced bool) state {
	return func(m *model, c rune) state {
		switch {
		case modelSpace(c):
			return modelTag(true)
		case c == '/':
			m.start.slash = m.at
			return literally(">", (*model).started)
		case c == '>':
			return m.started()
		case !spaced || !chars.NameStart(c):
			return m.stray()
		case len(m.start.attrs) == 128:
			return m.fail(m.at, api.ErrLong)
		}
		m.name, m.nameAt, m.value = string(c), m.at, ""
		return modelName(0, modelEquals)
	}
}

func modelEquals(m *model, c rune) state {
	switch {
	case modelSpace(c):
		return modelEquals
	case c == '=':
		return modelQuote
	}
	return m.stray()
}

func modelQuote(m *model, c rune) state {
	switch {
	case modelSpace(c):
		return modelQuote
	case c == '"' || c == '\'':
		return modelValue(c, func(m *model) state {
			m.start.attrs = append(m.start.attrs, modelAttr{m.name, m.nameAt, m.value})
			return modelTag(false)
		})
	}
	return m.stray()
}

func modelValue(quote rune, then func(m *model) state) state {
	return func(m *model, c rune) state {
		switch {
		case c == quote:
			return then(m)
		case c == '<':
			return m.stray()
		case c == '&':
			return modelRefer("&", m.at, func(m *model, said string) state {
				m.value += said
				return modelValue(quote, then)
			})
		case modelSpace(c):
			c = ' '
		}
		m.value += string(c)
		return modelValue(quote, then)
	}
}

var (
	wholeReference = regexp.MustCompile(`^&(?:(lt|gt|amp|quot|apos)|#([0-9]+)|#x([0-9a-fA-F]+));$`)
	halfReference  = regexp.MustCompile(`^&(?:l|lt|g|gt|a|am|amp|ap|apo|apos|q|qu|quo|quot|#[0-9]*|#x[0-9a-fA-F]*)$`)
)

// modelRefer is the state within a reference, of which so much has come.
func modelRefer(come string, at int, then func(m *model, said string) state) state {
	return func(m *model, c rune) state {
		come += string(c)
		if halfReference.MatchString(come) {
			return modelRefer(come, at, then)
		}
		found := wholeReference.FindStringSubmatch(come)
		if found == nil {
			return m.fail(at, api.ErrRefer)
		}
		if found[1] != "" {
			return then(m, map[string]string{"lt": "<", "gt": ">", "amp": "&", "quot": `"`, "apos": "'"}[found[1]])
		}
		number, _ := new(big.Int).SetString(found[2], 10)
		if found[3] != "" {
			number, _ = new(big.Int).SetString(found[3], 16)
		}
		if number.Cmp(big.NewInt(0x10FFFF)) > 0 || !chars.Char(rune(number.Int64())) {
			return m.fail(at, api.ErrRefer)
		}
		return then(m, string(rune(number.Int64())))
	}
}

// said takes down what a text, a reference or a Cdata says.
func (m *model) said(at int, said string) {
	if m.textAt < 0 {
		m.textAt = at
	}
	m.text += said
}

// tellText tells what has been said.
func (m *model) tellText() {
	if m.text != "" {
		m.tokens = append(m.tokens, api.Token{Kind: api.TokText, Text: m.text, At: m.textAt})
	}
	m.text, m.textAt = "", -1
}

func modelContent(m *model, c rune) state {
	switch c {
	case '<':
		m.open, m.run = m.at, ""
		return modelBracket
	case '&':
		m.run = ""
		return modelRefer("&", m.at, func(at int) func(m *model, said string) state {
			return func(m *model, said string) state {
				m.said(at, said)
				return modelContent
			}
		}(m.at))
	}
	m.run += string(c)
	if strings.HasSuffix(m.run, "]]>") {
		return m.stray()
	}
	m.said(m.at, string(c))
	return modelContent
}

func modelBracket(m *model, c rune) state {
	switch {
	case c == '!':
		return modelBang
	case c == '?':
		return modelQuestion
	case c == '/':
		m.tellText()
		m.name = ""
		return modelName(0, modelEnd)
	case !chars.NameStart(c):
		return m.stray()
	}
	m.tellText()
	if len(m.stack) == 512 {
		return m.fail(m.open, api.ErrNesting)
	}
	return m.beginning(c)
}

// modelEnd is the state behind the name of an end.
func modelEnd(m *model, c rune) state {
	if m.name != m.stack[len(m.stack)-1].name {
		return m.fail(m.open, api.ErrEnd)
	}
	switch {
	case modelSpace(c):
		return modelEnd
	case c == '>':
		return m.ended(m.open)
	}
	return m.stray()
}

func (m *model) ended(at int) state {
	e := m.stack[len(m.stack)-1]
	m.stack = m.stack[:len(m.stack)-1]
	m.tokens = append(m.tokens, api.Token{Kind: api.TokEnd, Space: e.space, Local: e.local, At: at})
	return m.rest()
}

const (
	xmlSpace   = "http://www.w3.org/XML/1998/namespace"
	xmlnsSpace = "http://www.w3.org/2000/xmlns/"
)

func halves(name string) (string, string) {
	if prefix, own, ok := strings.Cut(name, ":"); ok {
		return prefix, own
	}
	return "", name
}

// declared is the prefix that an attribute of this name declares, and whether it does.
func declared(name string) (string, bool) {
	if name == "xmlns" {
		return "", true
	}
	return strings.CutPrefix(name, "xmlns:")
}

// started is the answer to the end of a beginning.
func (m *model) started() state {
	spaces := map[string]string{"xml": xmlSpace}
	if len(m.stack) > 0 {
		spaces = map[string]string{}
		for p, s := range m.stack[len(m.stack)-1].spaces {
			spaces[p] = s
		}
	}
	for _, a := range m.start.attrs {
		prefix, ok := declared(a.name)
		if !ok {
			continue
		}
		if prefix == "xmlns" || prefix != "" && a.value == "" || a.value == xmlnsSpace || prefix == "xml" && a.value != xmlSpace || prefix != "xml" && a.value == xmlSpace {
			return m.fail(a.at, api.ErrPrefix)
		}
		spaces[prefix] = a.value
	}
	prefix, local := halves(m.start.name)
	space, ok := spaces[prefix]
	if !ok && prefix != "" {
		return m.fail(m.start.at+1, api.ErrPrefix)
	}
	token := api.Token{Kind: api.TokStart, Space: space, Local: local, At: m.start.at}
	seen := map[string]bool{}
	twice := -1
	for _, a := range m.start.attrs {
		known := "declares " + a.name
		if _, ok := declared(a.name); !ok {
			prefix, own := halves(a.name)
			attr := api.Attr{Local: own, Value: a.value}
			if prefix != "" {
				if attr.Space, ok = spaces[prefix]; !ok {
					return m.fail(a.at, api.ErrPrefix)
				}
			}
			known = "is " + own + " " + attr.Space
			token.Attrs = append(token.Attrs, attr)
		}
		if seen[known] && twice < 0 {
			twice = a.at
		}
		seen[known] = true
	}
	if twice >= 0 {
		return m.fail(twice, api.ErrAttr)
	}
	m.tokens = append(m.tokens, token)
	m.stack = append(m.stack, modelElement{m.start.name, space, local, spaces})
	if m.start.slash >= 0 {
		return m.ended(m.start.slash)
	}
	return modelContent
}
