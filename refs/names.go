package refs

import (
	"strings"

	"gridiron/api"
	"gridiron/chars"
)

// letterCount is how many letters there are for a column.
const letterCount = 26

// Column is the letters of a column.
func Column(n int) (string, api.Errno) {
	if !isColumn(n) {
		return "", api.ErrAddr
	}
	return letters(n), api.OK
}

func isColumn(n int) bool {
	return 0 <= n && n < api.MaxCols
}

func letters(n int) string {
	out := ""
	// no letter stands for nothing, so that all but the last one count from 1 on
	for ; n >= 0; n = n/letterCount - 1 {
		out = string(rune('A'+n%letterCount)) + out
	}
	return out
}

// ParseColumn is the column that has these letters.
func ParseColumn(s string) (int, api.Errno) {
	count := 0
	for _, r := range s {
		if !isCapital(r) {
			return 0, api.ErrAddr
		}
		count = count*letterCount + int(r-'A') + 1
		// looked at here, since so many letters may come that the count would leave its type
		if count > api.MaxCols {
			return 0, api.ErrAddr
		}
	}
	if count == 0 {
		return 0, api.ErrAddr
	}
	return count - 1, api.OK
}

// barred are the signs that no sheet's name has.
const barred = `[]*?:/\'`

// SheetName tells whether a sheet may have a name.
func SheetName(s string) bool {
	if len(s) < 1 || len(s) > api.MaxName {
		return false
	}
	if _, ok := chars.Valid(s); !ok {
		return false
	}
	for _, r := range s {
		if r < 0x20 || strings.ContainsRune(barred, r) {
			return false
		}
	}
	return true
}

// Quote is a sheet's name as it is written in a reference.
func Quote(s string) (string, api.Errno) {
	switch {
	case !SheetName(s):
		return "", api.ErrSheet
	case isWord(s):
		// what is handed in is not kept
		return strings.Clone(s), api.OK
	}
	return "'" + s + "'", api.OK
}

// isWord tells whether a sheet's name stands without quotes.
func isWord(s string) bool {
	for at, r := range s {
		if !inWord(r) || at == 0 && isDigit(r) {
			return false
		}
	}
	return true
}

func inWord(r rune) bool {
	return isCapital(r) || 'a' <= r && r <= 'z' || isDigit(r) || r == '_'
}

func isCapital(r rune) bool {
	return 'A' <= r && r <= 'Z'
}

func isDigit(r rune) bool {
	return '0' <= r && r <= '9'
}
