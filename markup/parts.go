package markup

import (
	"strings"

	"gridiron/api"
	"gridiron/chars"
)

// comment goes past a comment.
func (r *reader) comment() {
	if r.starts("<!DOCTYPE") {
		panic(fault{r.at, api.ErrDoctype})
	}
	r.word("<!--")
	r.past("--")
	r.word(">")
}

// instruction goes past an instruction.
func (r *reader) instruction() {
	r.word("<?")
	at := r.at
	if chars.Lower(r.plainName()) == "xml" {
		panic(fault{at, api.ErrMarkup})
	}
	if chars.Space(r.peek()) {
		r.past("?>")
		return
	}
	r.word("?>")
}

// outside goes past what may stand outside of the element, up to a < with which none of that begins, or to the document's end.
func (r *reader) outside() {
	for r.spaces(); !r.ended(); r.spaces() {
		r.hold(r.peek() == '<')
		switch r.look(len("<")) {
		case '!':
			r.comment()
		case '?':
			r.instruction()
		default:
			return
		}
	}
}

// declaration goes past the declaration, if there is one.
func (r *reader) declaration() {
	const begin = "<?xml"
	// without a space it is the beginning of an instruction's name
	if !r.starts(begin) || len(r.doc) == r.at+len(begin) || !chars.Space(rune(r.doc[r.at+len(begin)])) {
		return
	}
	r.word(begin)
	r.spaces()
	r.word("version")
	r.equals()
	r.oneOf("1.0")
	spaced := r.spaces()
	if spaced && r.peek() == 'e' {
		r.word("encoding")
		r.equals()
		r.encoding()
		spaced = r.spaces()
	}
	if spaced && r.peek() == 's' {
		r.word("standalone")
		r.equals()
		r.oneOf("yes", "no")
		r.spaces()
	}
	r.word("?>")
}

// equals goes past the sign between a name and its value.
func (r *reader) equals() {
	r.spaces()
	r.word("=")
	r.spaces()
}

// quote goes past the quote at which a value begins.
func (r *reader) quote() string {
	quote := r.peek()
	r.hold(quote == '"' || quote == '\'')
	r.at++
	return string(quote)
}

// oneOf goes past one of some values between quotes, no two of which begin alike.
func (r *reader) oneOf(values ...string) {
	quote := r.quote()
	first := r.peek()
	for _, value := range values {
		if strings.HasPrefix(value, string(first)) {
			r.word(value + quote)
			return
		}
	}
	r.hold(false)
}

// encoding goes past the value of an encoding.
func (r *reader) encoding() {
	at := r.at + 1
	if chars.Upper(r.quoted()) != "UTF-8" {
		panic(fault{at, api.ErrEncoding})
	}
}

// quoted goes past a value between quotes, and answers what it says.
func (r *reader) quoted() string {
	signs := r.quote() + "<&"
	var value strings.Builder
	for {
		value.WriteString(blanked(chars.Lines(r.until(signs))))
		switch r.peek() {
		case '<':
			r.hold(false)
		case '&':
			value.WriteString(r.reference())
		default:
			r.at++
			return value.String()
		}
	}
}

// blanked is a text with a blank for each space.
func blanked(text string) string {
	return strings.Map(func(c rune) rune {
		if chars.Space(c) {
			return ' '
		}
		return c
	}, text)
}

// characters goes past a text, and answers what it says.
func (r *reader) characters() string {
	at := r.at
	text := r.until("<&")
	if n := strings.Index(text, "]]>"); n >= 0 {
		panic(fault{at + n + len("]]"), api.ErrMarkup})
	}
	return chars.Lines(text)
}

// cdata goes past a Cdata, and answers what it says.
func (r *reader) cdata() string {
	r.word("<![CDATA[")
	return chars.Lines(r.past("]]>"))
}

// reference goes past a reference, and answers what it says.
func (r *reader) reference() string {
	at := r.at
	r.at++
	if r.peek() == '#' {
		r.number()
	} else {
		r.entity()
	}
	// what has ended too early has no ; behind it, which makes it none of those that there are
	said, _, errno := chars.Unescape(r.doc[at:r.at])
	if errno != api.OK {
		panic(fault{at, api.ErrRefer})
	}
	return said
}

// number goes as far as a reference by a number goes.
func (r *reader) number() {
	r.word("#")
	digits := "0123456789"
	if r.peek() == 'x' {
		r.at++
		digits = "0123456789abcdefABCDEF"
	}
	for strings.ContainsRune(digits, r.peek()) {
		r.at++
	}
	if r.peek() == ';' {
		r.at++
	}
}

// entity goes as far as a reference by a name goes, or just beyond, where it can be none any more.
func (r *reader) entity() {
	from := r.at
	for could := true; could && r.doc[r.at-1] != ';'; could = beginsEntity(r.doc[from:r.at]) {
		r.peek()
		r.at++
	}
}

// beginsEntity tells whether one of the five begins so.
func beginsEntity(text string) bool {
	for _, name := range [...]string{"lt;", "gt;", "amp;", "quot;", "apos;"} {
		if strings.HasPrefix(name, text) {
			return true
		}
	}
	return false
}
