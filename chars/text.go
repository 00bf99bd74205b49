package chars

import (
	"iter"
	"strings"
)

// Lines is s with one way to end its lines.
func Lines(s string) string {
	return rewritten(s, func(at int, r rune) (string, bool) {
		switch {
		case r != '\r':
			return "", false
		case strings.HasPrefix(s[at:], "\r\n"):
			return "", true
		}
		return "\n", true
	})
}

// rewritten is s with another text for some of its signs, each of them a single byte; all else, bytes that are no UTF-8 too, as it stands.
func rewritten(s string, other func(at int, r rune) (string, bool)) string {
	var out strings.Builder
	done := 0
	for at, r := range s {
		if text, ok := other(at, r); ok {
			out.WriteString(s[done:at])
			out.WriteString(text)
			done = at + 1
		}
	}
	out.WriteString(s[done:])
	return out.String()
}

// Count is how many characters s has.
func Count(s string) int {
	n := 0
	for range s {
		n++
	}
	return n
}

// Cut is n characters of s, from a number on, or as many as there are.
func Cut(s string, from, n int) string {
	// one behind the other, since from and n together may leave their type
	rest := s[place(s, from):]
	return strings.Clone(rest[:place(rest, n)])
}

// place is where n characters of s end, or all of them, if it has fewer.
func place(s string, n int) int {
	for at := range s {
		if n <= 0 {
			return at
		}
		n--
	}
	return len(s)
}

// Runes goes through the characters of s, each with the place of its first byte.
func Runes(s string) iter.Seq2[int, rune] {
	// what is handed in is not kept
	own := strings.Clone(s)
	return func(yield func(int, rune) bool) {
		for at, r := range own {
			if !yield(at, r) {
				return
			}
		}
	}
}

// Upper is s with large letters for small ones.
func Upper(s string) string {
	return moved(s, 'a', 'z', 'A')
}

// Lower is s with small letters for large ones.
func Lower(s string) string {
	return moved(s, 'A', 'Z', 'a')
}

// moved is s with the letters from to on in place of those from first to last.
func moved(s string, first, last, to rune) string {
	out := []byte(s)
	for at, r := range s {
		if between(r, first, last) {
			out[at] = byte(r - first + to)
		}
	}
	return string(out)
}
