package refs

import (
	"strconv"

	"gridiron/api"
)

// Text is a reference as OpenFormula writes it.
func Text(r api.Ref) (string, api.Errno) {
	if errno := Check(r); errno != api.OK {
		return "", errno
	}
	out := dollar(r.Fixed) + cellText(r.Sheet, r.A)
	if r.Area {
		out += ":" + cellText(r.To, r.B)
	}
	return out, api.OK
}

// cellText is a sheet's name, if there is one, and a corner behind a point.
func cellText(sheet string, c api.Corner) string {
	// of no name there is no text, as it should be
	name, _ := Quote(sheet)
	return name + "." + dollar(c.AbsCol) + letters(c.Col) + dollar(c.AbsRow) + strconv.Itoa(c.Row+1)
}

func dollar(stands bool) string {
	if stands {
		return "$"
	}
	return ""
}
