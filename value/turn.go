package value

import (
	"math"

	"gridiron/api"
	"gridiron/chars"
	"gridiron/number"
)

// The texts of the two truths.
const (
	yesText = "TRUE"
	noText  = "FALSE"
)

// AsNumber is a value as a number, or an error.
func AsNumber(v api.Value) api.Value {
	switch v.Kind {
	case api.VEmpty:
		return Num(0)
	case api.VNum:
		return Reckon(v.Num)
	case api.VText:
		return readNumber(v.Text)
	case api.VBool:
		return Num(truthNumber(v.Yes))
	case api.VErr:
		return passed(v.Err)
	}
	return Err(api.EValue)
}

func readNumber(s string) api.Value {
	x, errno := number.Parse(s)
	if errno != api.OK {
		return Err(api.EValue)
	}
	return Num(x)
}

func truthNumber(yes bool) float64 {
	if yes {
		return 1
	}
	return 0
}

// AsText is a value as a text, or an error.
func AsText(v api.Value) api.Value {
	switch v.Kind {
	case api.VEmpty:
		return Text("")
	case api.VNum:
		return writeNumber(v.Num)
	case api.VText:
		return Text(v.Text)
	case api.VBool:
		return Text(truthText(v.Yes))
	case api.VErr:
		return passed(v.Err)
	}
	return Err(api.EValue)
}

func writeNumber(x float64) api.Value {
	s, errno := number.Text(x)
	if errno != api.OK {
		return Err(api.ENum)
	}
	return Text(s)
}

func truthText(yes bool) string {
	if yes {
		return yesText
	}
	return noText
}

// AsTruth is a value as a truth, or an error.
func AsTruth(v api.Value) api.Value {
	switch v.Kind {
	case api.VEmpty:
		return Bool(false)
	case api.VNum:
		return numberTruth(v.Num)
	case api.VText:
		return readTruth(v.Text)
	case api.VBool:
		return Bool(v.Yes)
	case api.VErr:
		return passed(v.Err)
	}
	return Err(api.EValue)
}

// numberTruth is whether a number is not 0; an infinity is not 0 either.
func numberTruth(x float64) api.Value {
	if math.IsNaN(x) {
		return Err(api.ENum)
	}
	return Bool(x != 0)
}

func readTruth(s string) api.Value {
	switch chars.Upper(s) {
	case yesText:
		return Bool(true)
	case noText:
		return Bool(false)
	}
	return Err(api.EValue)
}

// passed is the error with a code, EValue in place of one that there is not.
func passed(code int) api.Value {
	if !isCode(code) {
		return Err(api.EValue)
	}
	return Err(code)
}
