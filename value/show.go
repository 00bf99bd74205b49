package value

import (
	"strings"

	"gridiron/api"
)

// errTexts are the errors' texts, by their codes from 1 on.
var errTexts = [api.ELimit]string{"#NULL!", "#DIV/0!", "#VALUE!", "#REF!", "#NAME?", "#NUM!", "#N/A", "#CYCLE!", "#LIMIT!"}

// isCode tells whether there is an error with a code.
func isCode(code int) bool {
	return api.ENull <= code && code <= api.ELimit
}

// ErrText is the text of the error with a code, none, if there is no such error.
func ErrText(code int) string {
	if !isCode(code) {
		return ""
	}
	return errTexts[code-1]
}

// ParseErr is the code of the error whose text s is.
func ParseErr(s string) (int, bool) {
	for i, text := range errTexts {
		if text == s {
			return i + 1, true
		}
	}
	return 0, false
}

// Show is what stands for a value, as it is typed into a formula; nothing, where there is no text of it.
func Show(v api.Value) string {
	switch v.Kind {
	case api.VNum, api.VBool:
		// a number that has no text is an error there, without one
		return AsText(v).Text
	case api.VText:
		return `"` + strings.ReplaceAll(v.Text, `"`, `""`) + `"`
	case api.VErr:
		return ErrText(v.Err)
	}
	return ""
}
