package markup

import (
	"gridiron/api"
	"gridiron/chars"
)

// stream makes tokens of what a reader reads.
type stream struct {
	reader
	scope scope
	open  []element // those that have begun and not ended, the innermost last
	text  text
}

// element is what is known of one that is open.
type element struct {
	name     name
	space    string
	declared int // how many declarations held ahead of it
}

// text is what stands between two other tokens, as far as it has been read.
type text struct {
	begun bool
	at    int // where it begins
	end   int // the place behind its last byte
	said  []byte
}

func newStream(doc string) *stream {
	return &stream{reader: newReader(doc), scope: newScope()}
}

// tokens goes through the tokens, each with the place behind its last byte; a document in which something is wrong is given up there.
func (s *stream) tokens(yield func(int, api.Token) bool) {
	if s.starts("\uFEFF") {
		s.at += len("\uFEFF")
	}
	s.declaration()
	s.outside()
	more := s.start(yield)
	for more && len(s.open) > 0 {
		more = s.within(yield)
	}
	if more {
		s.rest()
	}
}

// rest goes past what stands behind the element.
func (s *stream) rest() {
	s.outside()
	if !s.ended() {
		s.stray()
	}
	if s.spoilt {
		s.over()
	}
}

// stray gives the document up at the character behind the next < .
func (s *stream) stray() {
	s.word("<")
	s.hold(false)
}

// within goes past the next thing within an element, and tells what has ended by it; it answers whether more is asked for.
func (s *stream) within(yield func(int, api.Token) bool) bool {
	switch s.peek() {
	case '<':
		return s.bracket(yield)
	case '&':
		s.add(s.reference)
	default:
		s.add(s.characters)
	}
	return true
}

// bracket is within, at a < .
func (s *stream) bracket(yield func(int, api.Token) bool) bool {
	switch s.look(len("<")) {
	case '/':
		return s.tellText(yield) && s.end(yield)
	case '?':
		s.instruction()
	case '!':
		if s.starts("<![") {
			s.add(s.cdata)
		} else {
			s.comment()
		}
	default:
		return s.startWithin(yield)
	}
	return true
}

// add puts what is read next to the text.
func (s *stream) add(read func() string) {
	if !s.text.begun {
		s.text.begun = true
		s.text.at = s.at
	}
	s.text.said = append(s.text.said, read()...)
	s.text.end = s.at
}

// tellText tells the text, which has ended, if there is one.
func (s *stream) tellText(yield func(int, api.Token) bool) bool {
	t := s.text
	s.text = text{said: t.said[:0]}
	return len(t.said) == 0 || yield(t.end, api.Token{Kind: api.TokText, Text: string(t.said), At: t.at})
}

// startWithin is start, of an element within another one.
func (s *stream) startWithin(yield func(int, api.Token) bool) bool {
	if !chars.NameStart(s.look(len("<"))) {
		s.stray()
	}
	if !s.tellText(yield) {
		return false
	}
	if len(s.open) == api.MaxNesting {
		panic(fault{s.at, api.ErrNesting})
	}
	return s.start(yield)
}

// start goes past a beginning, and tells it, and its end, if that is in it.
func (s *stream) start(yield func(int, api.Token) bool) bool {
	at := s.at
	h := s.head()
	e := element{name: h.name, declared: len(s.scope.declared)}
	s.scope.declareAll(h.attrs)
	e.space = s.scope.spaces[s.scope.space(h.name.prefix, at+len("<"))]
	attrs := s.named(h.attrs)
	s.open = append(s.open, e)
	token := api.Token{Kind: api.TokStart, Space: e.space, Local: h.name.own, Attrs: attrs, At: at}
	return yield(s.at, token) && (!h.closed || s.tellEnd(h.slash, yield))
}

// head is what stands in a beginning.
type head struct {
	name   name
	attrs  []attr
	closed bool
	slash  int // where the / stands, if it is closed
}

// head goes past a beginning.
func (s *stream) head() head {
	var h head
	s.word("<")
	// what leads here has seen that something stands behind the <
	s.begun = true
	h.name = s.name()
	h.attrs = s.attrs()
	if s.peek() == '/' {
		h.closed, h.slash = true, s.at
		s.at++
	}
	s.word(">")
	return h
}

// attrs goes past the attributes of a beginning and the spaces behind them.
func (s *stream) attrs() []attr {
	var all []attr
	for spaced := s.spaces(); s.peek() != '/' && s.peek() != '>'; spaced = s.spaces() {
		s.hold(spaced && chars.NameStart(s.peek()))
		if len(all) == api.MaxAttrs {
			panic(fault{s.at, api.ErrLong})
		}
		all = append(all, s.attr())
	}
	return all
}

// attr goes past an attribute.
func (s *stream) attr() attr {
	var a attr
	a.at = s.at
	a.name = s.name()
	s.equals()
	a.value = s.quoted()
	return a
}

// named are the attributes that declare nothing, with their name spaces.
func (s *stream) named(attrs []attr) []api.Attr {
	var all []api.Attr
	for i, m := range s.scope.meanings(attrs) {
		if !m.declares {
			all = append(all, api.Attr{Space: s.scope.spaces[m.space], Local: m.own, Value: attrs[i].value})
		}
	}
	return all
}

// end goes past an end, and tells it.
func (s *stream) end(yield func(int, api.Token) bool) bool {
	at := s.at
	s.word("</")
	if s.name() != s.open[len(s.open)-1].name {
		panic(fault{at, api.ErrEnd})
	}
	s.spaces()
	s.word(">")
	return s.tellEnd(at, yield)
}

// tellEnd closes the innermost element, and tells its end.
func (s *stream) tellEnd(at int, yield func(int, api.Token) bool) bool {
	e := s.open[len(s.open)-1]
	s.open = s.open[:len(s.open)-1]
	s.scope.leave(e.declared)
	return yield(s.at, api.Token{Kind: api.TokEnd, Space: e.space, Local: e.name.own, At: at})
}
