package lexis

import (
	"math"
	"strings"

	"gridiron/api"
	"gridiron/chars"
	"gridiron/number"
	"gridiron/refs"
	"gridiron/value"
)

// Name tells whether a text is a name.
func Name(s string) bool {
	if len(s) < 1 || len(s) > api.MaxName {
		return false
	}
	for at, c := range s {
		if at == 0 && !beginsName(c) || !inName(c) {
			return false
		}
	}
	return true
}

// Quote is a text as a formula has it.
func Quote(s string) (string, api.Errno) {
	if errno := checkText(s); errno != api.OK {
		return "", errno
	}
	return `"` + strings.ReplaceAll(s, `"`, `""`) + `"`, api.OK
}

// checkText tells whether a text of a formula may say s.
func checkText(s string) api.Errno {
	if _, ok := chars.Valid(s); !ok {
		return api.ErrLexText
	}
	if len(s) > api.MaxText {
		return api.ErrLong
	}
	return api.OK
}

// Text is a token's text.
func Text(x api.Lexeme) (string, api.Errno) {
	if !bare(x) {
		return "", api.ErrArg
	}
	if x.Kind == api.LText {
		return Quote(x.Text)
	}
	text := written(x)
	if text == "" {
		return "", api.ErrArg
	}
	return text, api.OK
}

// bare tells whether a token has nothing but what its kind has, and its place.
func bare(x api.Lexeme) bool {
	own := api.Lexeme{Kind: x.Kind, At: x.At}
	switch x.Kind {
	case api.LNum:
		own.Num = x.Num
	case api.LRef:
		own.Ref = x.Ref
	case api.LErr:
		own.Err = x.Err
	default:
		own.Text = x.Text
	}
	// a Num of -0 is zero by this, and a NaN is not what it is itself: no token has one
	return x == own
}

// written is the text of a token of another kind than a text's; if there is none, it is empty, as no token's is.
func written(x api.Lexeme) string {
	switch {
	case x.Kind == api.LNum && !math.Signbit(x.Num):
		// of an infinity there is no text
		text, _ := number.Text(x.Num)
		return text
	case x.Kind == api.LRef:
		return bracket(x.Ref)
	case x.Kind == api.LErr:
		return value.ErrText(x.Err)
	case x.Kind == api.LName && Name(x.Text), x.Kind == api.LSign && isSign(x.Text):
		// what is handed in is not kept
		return strings.Clone(x.Text)
	}
	return ""
}

// bracket is a reference between its brackets, or nothing, if it may not be.
func bracket(r api.Ref) string {
	text, errno := refs.Text(r)
	if errno != api.OK {
		return ""
	}
	return "[" + text + "]"
}
