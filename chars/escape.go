package chars

import (
	"strings"

	"gridiron/api"
)

// Escape is s with references for the signs that can't stand in XML's texts, or in its attributes' values, as they are.
func Escape(s string, attr bool) (string, api.Errno) {
	if _, ok := Valid(s); !ok {
		return "", api.ErrChar
	}
	return rewritten(s, func(_ int, r rune) (string, bool) {
		return reference(r, attr)
	}), api.OK
}

// reference is what stands for a sign in a text or in an attribute's value, if it is not the sign itself.
func reference(r rune, attr bool) (string, bool) {
	switch {
	case r == '&':
		return "&amp;", true
	case r == '<':
		return "&lt;", true
	case r == '>':
		return "&gt;", true
	case r == 0xD:
		return "&#13;", true
	case attr && r == '"':
		return "&quot;", true
	case attr && r == 0x9:
		return "&#9;", true
	case attr && r == 0xA:
		return "&#10;", true
	}
	return "", false
}

// Unescape is s with what its references say in their place; beside an error, the place of what is wrong.
func Unescape(s string) (string, int, api.Errno) {
	if at, ok := Valid(s); !ok {
		return "", at, api.ErrChar
	}
	var out strings.Builder
	done := 0
	for at, r := range s {
		if r != '&' {
			continue
		}
		inside, _, ended := strings.Cut(s[at+1:], ";")
		said, ok := referred(inside)
		if !ended || !ok {
			return "", at, api.ErrEntity
		}
		out.WriteString(s[done:at])
		out.WriteRune(said)
		done = at + len("&") + len(inside) + len(";")
	}
	out.WriteString(s[done:])
	return out.String(), 0, api.OK
}

// referred is the character that a reference says by what stands in it between & and ; .
func referred(inside string) (rune, bool) {
	switch inside {
	case "amp":
		return '&', true
	case "lt":
		return '<', true
	case "gt":
		return '>', true
	case "quot":
		return '"', true
	case "apos":
		return '\'', true
	}
	if digits, ok := strings.CutPrefix(inside, "#x"); ok {
		return numbered(digits, 16)
	}
	if digits, ok := strings.CutPrefix(inside, "#"); ok {
		return numbered(digits, 10)
	}
	return 0, false
}

// beyond is the first number behind those of all characters.
const beyond = 0x110000

// numbered is the character whose number the digits are.
func numbered(digits string, base rune) (rune, bool) {
	var number rune
	for _, r := range digits {
		digit := worth(r)
		if digit >= base {
			return 0, false
		}
		// there may be any number of digits: held here, the number can't leave its type
		number = min(number*base+digit, beyond)
	}
	// no digits at all are told here, too: 0 is no character
	return number, Char(number)
}

// worth is what a digit counts, or more than any digit does.
func worth(r rune) rune {
	switch {
	case between(r, '0', '9'):
		return r - '0'
	case between(r, 'a', 'f'):
		return r - 'a' + 10
	case between(r, 'A', 'F'):
		return r - 'A' + 10
	}
	return 16
}
