package chars

import (
	"strings"
	"unicode/utf8"
)

// Valid tells whether s is well-formed UTF-8 of XML's characters alone, and if not, the place of the first thing that is not.
func Valid(s string) (int, bool) {
	for at, r := range s {
		if !Char(r) || r == utf8.RuneError && !written(s[at:]) {
			return at, false
		}
	}
	return 0, true
}

// written tells whether the character FFFD itself stands at the beginning of s: a byte that is no UTF-8 is read as that, too.
func written(s string) bool {
	return strings.HasPrefix(s, "\uFFFD")
}

// Name tells whether s is a name without a prefix.
func Name(s string) bool {
	// a byte that is no UTF-8 is read as FFFD, which may stand in a name
	if _, ok := Valid(s); !ok {
		return false
	}
	for at, r := range s {
		if at == 0 && !NameStart(r) || !NameChar(r) {
			return false
		}
	}
	return s != ""
}

// Split is the prefix of a name, if it has one, and the name behind it.
func Split(s string) (string, string, bool) {
	// no name has a colon, so that the first one is the only one that can part two of them
	prefix, own, parted := strings.Cut(s, ":")
	switch {
	case parted && Name(prefix) && Name(own):
		return strings.Clone(prefix), strings.Clone(own), true
	case !parted && Name(s):
		return "", strings.Clone(s), true
	}
	return "", "", false
}
