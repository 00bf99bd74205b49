package fnstat

import (
	"strings"

	"gridiron/api"
	"gridiron/number"
	"gridiron/value"
)

// criterion is what values are held against: how, and against which.
type criterion struct {
	sign string
	rest api.Value
}

// asCriterion is the criterion that a value says.
func asCriterion(c api.Value) criterion {
	switch c.Kind {
	case api.VEmpty:
		return criterion{"=", value.Num(0)}
	case api.VText:
		for _, sign := range []string{"<=", ">=", "<>", "<", ">", "="} {
			if rest, is := strings.CutPrefix(c.Text, sign); is {
				return criterion{sign, meant(rest)}
			}
		}
	}
	return criterion{"=", c}
}

// meant is the value that a text behind a sign stands for.
func meant(s string) api.Value {
	if s == "" {
		return api.Value{}
	}
	if x, errno := number.Parse(s); errno == api.OK {
		return value.Num(x)
	}
	if code, is := value.ParseErr(s); is {
		return value.Err(code)
	}
	if v := value.AsTruth(value.Text(s)); v.Kind == api.VBool {
		return v
	}
	return value.Text(s)
}

// met tells whether a value meets the criterion.
func (c criterion) met(v api.Value) bool {
	alike := v.Kind == c.rest.Kind
	switch c.sign {
	case "=":
		return alike && value.Compare(v, c.rest) == 0
	case "<>":
		return !alike || value.Compare(v, c.rest) != 0
	}
	if !alike || v.Kind == api.VEmpty || v.Kind == api.VErr {
		return false
	}
	return stands(value.Compare(v, c.rest), c.sign)
}

// stands tells whether a comparison's answer is one that a sign asks for.
func stands(order int, sign string) bool {
	switch sign {
	case "<":
		return order < 0
	case "<=":
		return order <= 0
	case ">":
		return order > 0
	}
	return order >= 0
}
