package markup

import (
	"strings"
	"unicode/utf8"

	"gridiron/api"
	"gridiron/chars"
)

// fault is what is wrong with a document, and where; it is thrown when the document is given up, and caught at the faces.
type fault struct {
	at    int
	errno api.Errno
}

// reader goes through a document, and gives it up at what is wrong first.
type reader struct {
	doc    string // its bytes, up to the first one that is no character
	at     int    // where it is gone on
	spoilt bool   // whether there is one that is no character
	begun  bool   // whether there is an element yet
}

func newReader(doc string) reader {
	if at, ok := chars.Valid(doc); !ok {
		return reader{doc: doc[:at], spoilt: true}
	}
	return reader{doc: doc}
}

// over gives the document up, because it goes no further.
func (r *reader) over() {
	switch {
	case r.spoilt:
		panic(fault{len(r.doc), api.ErrEncoding})
	case r.begun:
		panic(fault{len(r.doc), api.ErrEnd})
	}
	panic(fault{len(r.doc), api.ErrMarkup})
}

// hold gives the document up at the next character, if that can't stand there.
func (r *reader) hold(holds bool) {
	if !holds {
		panic(fault{r.at, api.ErrMarkup})
	}
}

// ended tells whether the last character has been read.
func (r *reader) ended() bool {
	return r.at == len(r.doc)
}

// peek is the next character, which must be there.
func (r *reader) peek() rune {
	return r.look(0)
}

// look is the character n bytes further on, which must be there.
func (r *reader) look(n int) rune {
	if r.at+n >= len(r.doc) {
		r.over()
	}
	c, _ := utf8.DecodeRuneInString(r.doc[r.at+n:])
	return c
}

// starts tells whether a text comes next.
func (r *reader) starts(text string) bool {
	return strings.HasPrefix(r.doc[r.at:], text)
}

// word goes past a word, which must stand there.
func (r *reader) word(word string) {
	for _, c := range word {
		r.hold(r.peek() == c)
		r.at++
	}
}

// spaces goes past spaces, and tells whether there are any.
func (r *reader) spaces() bool {
	from := r.at
	for !r.ended() && chars.Space(r.peek()) {
		r.at++
	}
	return r.at > from
}

// past goes past the next place where a word stands, and answers what stands ahead of that.
func (r *reader) past(word string) string {
	ahead, _, found := strings.Cut(r.doc[r.at:], word)
	if !found {
		r.over()
	}
	r.at += len(ahead) + len(word)
	return ahead
}

// until goes up to the next one of some signs, or to the document's end, and answers what stands ahead of that.
func (r *reader) until(signs string) string {
	ahead := r.doc[r.at:]
	if n := strings.IndexAny(ahead, signs); n >= 0 {
		ahead = ahead[:n]
	}
	r.at += len(ahead)
	return ahead
}

// name is a name as it stands in a document.
type name struct {
	prefix string
	own    string
}

// name goes past a name, which may have a prefix.
func (r *reader) name() name {
	n := name{own: r.plainName()}
	if r.peek() == ':' {
		r.at++
		n.prefix, n.own = n.own, r.plainName()
	}
	return n
}

// plainName goes past a name without a colon.
func (r *reader) plainName() string {
	from := r.at
	r.hold(chars.NameStart(r.peek()))
	for chars.NameChar(r.peek()) {
		r.at += utf8.RuneLen(r.peek())
	}
	return r.doc[from:r.at]
}
