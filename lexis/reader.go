package lexis

import (
	"strings"
	"unicode/utf8"

	"gridiron/api"
	"gridiron/chars"
	"gridiron/number"
	"gridiron/refs"
	"gridiron/value"
)

// end is what stands behind the last character: no character is it.
const end rune = -1

// reader goes through a formula.
type reader struct {
	text string
	at   int // where it is gone on
}

// look is the character that stands there, and how many bytes it has.
func (r *reader) look() (rune, int) {
	if r.at == len(r.text) {
		return end, 0
	}
	return utf8.DecodeRuneInString(r.text[r.at:])
}

func (r *reader) peek() rune {
	c, _ := r.look()
	return c
}

// take goes past the character that stands there.
func (r *reader) take() rune {
	c, size := r.look()
	r.at += size
	return c
}

// skip goes past the character that stands there, if it is of a kind.
func (r *reader) skip(kind func(rune) bool) bool {
	is := kind(r.peek())
	if is {
		r.take()
	}
	return is
}

// starts tells whether a text comes next.
func (r *reader) starts(text string) bool {
	return strings.HasPrefix(r.text[r.at:], text)
}

// tokens goes through the tokens, up to what may not be; it answers the place and the error of that.
func (r *reader) tokens(yield func(api.Lexeme) bool) (at int, errno api.Errno) {
	var x api.Lexeme
blanks:
	if r.skip(chars.Space) {
		goto blanks
	}
	x = api.Lexeme{At: r.at}
	switch c := r.peek(); {
	case c == end:
		return 0, api.OK
	case isDigit(c):
		goto number
	case c == '"':
		goto text
	case c == '[':
		goto reference
	case beginsName(c):
		goto name
	case c == '#':
		goto failure
	}
	x.Kind = api.LSign
	x.Text, errno = r.sign()
	goto read
number:
	x.Kind = api.LNum
	x.Num, errno = r.number()
	goto read
text:
	x.Kind = api.LText
	x.Text, errno = r.quoted()
	goto read
reference:
	x.Kind = api.LRef
	x.Ref, errno = r.bracketed()
	goto read
name:
	x.Kind = api.LName
	x.Text, errno = r.name()
	goto read
failure:
	x.Kind = api.LErr
	x.Err, errno = r.failure()
read:
	if errno != api.OK {
		return x.At, errno
	}
	if yield(x) {
		goto blanks
	}
	return 0, api.OK
}

// number goes past a number.
func (r *reader) number() (float64, api.Errno) {
	from := r.at
whole:
	switch {
	case r.skip(isDigit):
		goto whole
	case r.skip(isPoint):
		goto point
	case r.skip(isPower):
		goto power
	}
	goto behind
point:
	if !r.skip(isDigit) {
		// the number has ended ahead of the point, which may not stand directly behind it; likewise an E
		goto wrong
	}
part:
	switch {
	case r.skip(isDigit):
		goto part
	case r.skip(isPower):
		goto power
	}
	goto behind
power:
	r.skip(isPlusOrMinus)
	if !r.skip(isDigit) {
		goto wrong
	}
places:
	if r.skip(isDigit) {
		goto places
	}
behind:
	if inName(r.peek()) {
		goto wrong
	}
	if x, errno := number.Parse(r.text[from:r.at]); errno == api.OK {
		return x, api.OK
	}
wrong:
	return 0, api.ErrLexNum
}

// quoted goes past a text, and answers what it says.
func (r *reader) quoted() (string, api.Errno) {
	r.take()
	from := r.at
within:
	switch r.take() {
	case end:
		return "", api.ErrLexText
	case '"':
		goto quote
	}
	goto within
quote:
	if r.skip(isQuote) {
		goto within
	}
	said := strings.ReplaceAll(r.text[from:r.at-1], `""`, `"`)
	if errno := checkText(said); errno != api.OK {
		return "", errno
	}
	// if nothing was replaced, it is a piece of what was handed in
	return strings.Clone(said), api.OK
}

// bracketed goes past a reference.
func (r *reader) bracketed() (api.Ref, api.Errno) {
	r.take()
	from := r.at
outside:
	switch r.take() {
	case end:
		goto wrong
	case ']':
		goto closed
	case '\'':
		goto within
	}
	goto outside
within:
	switch r.take() {
	case end:
		goto wrong
	case '\'':
		goto outside
	}
	goto within
closed:
	if ref, _, errno := refs.Parse(r.text[from : r.at-1]); errno == api.OK {
		return ref, api.OK
	}
wrong:
	return api.Ref{}, api.ErrLexRef
}

// name goes past a name.
func (r *reader) name() (string, api.Errno) {
	from := r.at
within:
	if r.skip(inName) {
		goto within
	}
	if r.at-from > api.MaxName {
		return "", api.ErrLexName
	}
	return strings.Clone(r.text[from:r.at]), api.OK
}

// failure goes past the text of an error that is a value, and answers its code.
func (r *reader) failure() (int, api.Errno) {
	longest, size := 0, 0
	for code := api.ENull; code <= api.ELimit; code++ {
		if text := value.ErrText(code); len(text) > size && r.starts(text) {
			longest, size = code, len(text)
		}
	}
	if size == 0 {
		return 0, api.ErrLexErr
	}
	r.at += size
	return longest, api.OK
}

// sign goes past a sign.
func (r *reader) sign() (string, api.Errno) {
	longest := ""
	for _, sign := range signs {
		if len(sign) > len(longest) && r.starts(sign) {
			longest = sign
		}
	}
	if longest == "" {
		return "", api.ErrLexByte
	}
	r.at += len(longest)
	return longest, api.OK
}
