package zip

import (
	"strings"
	"unicode/utf8"
)

// longestName is how many bytes a name has at most.
const longestName = 1024

// Name tells whether an entry may have a name.
func Name(s string) bool {
	if len(s) < 1 || len(s) > longestName || !utf8.ValidString(s) {
		return false
	}
	for i := range len(s) {
		if !nameByte(s[i]) {
			return false
		}
	}
	parts := strings.Split(s, "/")
	last := len(parts) - 1
	for _, part := range parts[:last] {
		if part == "" || climbs(part) {
			return false
		}
	}
	// the last part may be nothing: the name is a folder's
	return !climbs(parts[last])
}

// nameByte tells whether a byte may stand in a name.
func nameByte(c byte) bool {
	return c >= 32 && c != 127 && c != '\\' && c != ':'
}

// climbs tells whether a part of a name leads to another folder than the one it stands in.
func climbs(part string) bool {
	return part == "." || part == ".."
}
