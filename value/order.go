package value

import (
	"cmp"
	"strings"

	"gridiron/api"
	"gridiron/chars"
)

// Compare is the order of values: -1, if a stands ahead of b, 1, if behind it, 0, if they are the same.
func Compare(a, b api.Value) int {
	a, b = filled(a, b.Kind), filled(b, a.Kind)
	if rank(a) != rank(b) {
		return cmp.Compare(rank(a), rank(b))
	}
	switch a.Kind {
	case api.VNum:
		// the library's order has a NaN ahead of all numbers, and -0 as 0
		return cmp.Compare(a.Num, b.Num)
	case api.VText:
		return strings.Compare(chars.Upper(a.Text), chars.Upper(b.Text))
	case api.VBool:
		return cmp.Compare(truthNumber(a.Yes), truthNumber(b.Yes))
	case api.VErr:
		return cmp.Compare(a.Err, b.Err)
	}
	return 0
}

// filled is what a value counts as against one of another kind: the empty one as "" or as 0.
func filled(v api.Value, other int) api.Value {
	switch {
	case v.Kind != api.VEmpty:
		return v
	case other == api.VText:
		return Text("")
	}
	return Num(0)
}

// rank is where the values of a kind stand, ahead of those of other kinds; of what is no kind it is 0.
func rank(v api.Value) int {
	switch v.Kind {
	case api.VNum:
		return 1
	case api.VText:
		return 2
	case api.VBool:
		return 3
	case api.VErr:
		return 4
	}
	return 0
}
