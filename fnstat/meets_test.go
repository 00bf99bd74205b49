package fnstat_test

import (
	"math"
	"slices"
	"strings"
	"testing"

	"gridiron/api"
	"gridiron/fnstat"
)

func wantMeets(t *testing.T, c, v api.Value, is bool) {
	t.Helper()
	if got := fnstat.Meets(c, v); got != is {
		t.Errorf("%s meets %s: %v", told(v), told(c), got)
	}
}

// held are values of each kind against which criteria are held.
func held() []api.Value {
	out := append(values(0, 1, -1, 2, 1.5, 1000, tiny, -tiny, great), others()...)
	return append(out, text("B"), text("aB"), text("abc"), text("#N/A"), text("TRUE"), text(strings.Repeat("a", api.MaxText)))
}

// criteria are each operator and none with each kind of rest, and what is no text.
func criteria() []api.Value {
	out := held()
	for _, sign := range []string{"", "=", "<>", "<", "<=", ">", ">=", "==", "><", " ="} {
		for _, rest := range []string{"", "0", "-0", "1", "-1", "1.5", "01", "1e3", "1E+3", "1e999", "+1", ".5", "1.", " 1", "1 ", " ", "a", "A", "b", "ab", "AB", "abc", "é", "É", "TRUE", "true", "tRuE", "TRUE ", "FALSE", "false", "falſe", "#N/A", "#n/a", "#DIV/0!", "#LIMIT!", "#N/A ", "*", "a*", "?", ".*", "\x00"} {
			out = append(out, text(sign+rest))
		}
	}
	return out
}

// P18.1: each criterion against each value.
func TestMeets(t *testing.T) {
	for _, c := range criteria() {
		for _, v := range held() {
			wantMeets(t, c, v, meets(c, v))
		}
	}
}

// meeting are the values, of some that stand for all kinds, that meet a criterion.
func wantMeeting(t *testing.T, c api.Value, l ...api.Value) {
	t.Helper()
	for _, v := range []api.Value{{}, num(0), num(1), num(-1), num(2), text(""), text("1"), text("a"), text("A"), text("b"), text("TRUE"), text("#N/A"), truth(false), truth(true), fault(api.EDiv), fault(api.ENA)} {
		wantMeets(t, c, v, slices.Contains(l, v))
	}
}

// P18.1: criteria by hand.
func TestMeetsByHand(t *testing.T) {
	// what is no text, or has no operator, is what it is
	wantMeeting(t, api.Value{}, num(0))
	wantMeeting(t, num(1), num(1))
	wantMeeting(t, truth(true), truth(true))
	wantMeeting(t, truth(false), truth(false))
	wantMeeting(t, fault(api.ENA), fault(api.ENA))
	wantMeeting(t, text("1"), text("1"))
	wantMeeting(t, text(""), text(""))
	wantMeeting(t, text("a"), text("a"), text("A"))
	wantMeeting(t, text("true"), text("TRUE"))
	wantMeeting(t, text("#n/a"), text("#N/A"))
	// behind an operator a text stands for what it says
	wantMeeting(t, text("=1"), num(1))
	wantMeeting(t, text("=1.0E0"), num(1))
	wantMeeting(t, text("=-0"), num(0))
	wantMeeting(t, text("=-1"), num(-1))
	wantMeeting(t, text("="), api.Value{})
	wantMeeting(t, text("=true"), truth(true))
	wantMeeting(t, text("=False"), truth(false))
	wantMeeting(t, text("=#N/A"), fault(api.ENA))
	wantMeeting(t, text("=#n/a"), text("#N/A"))
	wantMeeting(t, text("=a"), text("a"), text("A"))
	wantMeeting(t, text("= 1"))
	wantMeeting(t, text("=+1"))
	wantMeeting(t, text("=="))
	wantMeets(t, text("= 1"), text(" 1"), true)
	wantMeets(t, text("=+1"), text("+1"), true)
	wantMeets(t, text("=="), text("="), true)
	wantMeets(t, text("=<>"), text("<>"), true)
	wantMeets(t, text("=1e999"), text("1E999"), true)
	wantMeets(t, text("<>= "), text("= "), false)
	// an order is asked of what is of the rest's kind
	wantMeeting(t, text("<1"), num(0), num(-1))
	wantMeeting(t, text("<=1"), num(0), num(-1), num(1))
	wantMeeting(t, text(">0"), num(1), num(2))
	wantMeeting(t, text(">=0"), num(0), num(1), num(2))
	wantMeeting(t, text("<a"), text(""), text("1"), text("#N/A"))
	wantMeeting(t, text("<=A"), text(""), text("1"), text("#N/A"), text("a"), text("A"))
	wantMeeting(t, text(">a"), text("b"), text("TRUE"))
	wantMeeting(t, text(">=b"), text("b"), text("TRUE"))
	wantMeeting(t, text("<TRUE"), truth(false))
	wantMeeting(t, text("<=true"), truth(false), truth(true))
	wantMeeting(t, text(">false"), truth(true))
	wantMeeting(t, text(">=FALSE"), truth(false), truth(true))
	for _, sign := range []string{"<", "<=", ">", ">="} {
		wantMeeting(t, text(sign))
		wantMeeting(t, text(sign+"#DIV/0!"))
	}
	wantMeets(t, text("=>1"), text(">1"), true)
	wantMeets(t, text("><1"), text("<2"), true)
	wantMeets(t, text("<<1"), text("1"), true)
	wantMeets(t, text("<=>1"), text(">1"), true)
}

// P18.1: what does not meet = meets <>, and the other way.
func TestUnlike(t *testing.T) {
	for _, v := range held() {
		for _, c := range criteria() {
			if c.Kind != api.VText || len(c.Text) > 100 {
				continue
			}
			wantMeets(t, text("<>"+c.Text), v, !fnstat.Meets(text("="+c.Text), v) || strings.HasPrefix(c.Text, "\xff"))
		}
	}
}

// P18.1: what is not well formed meets nothing, and nothing meets it.
func TestMeetsMalformed(t *testing.T) {
	for _, wrong := range malformed() {
		wantMeets(t, wrong, wrong, false)
		for _, v := range held() {
			wantMeets(t, wrong, v, false)
			wantMeets(t, v, wrong, false)
		}
		for _, c := range []api.Value{text("<>"), text("<>1"), text("<>a"), text("="), text(">=1"), text("<=x"), text("=#NULL!")} {
			wantMeets(t, c, wrong, false)
		}
	}
	full := strings.Repeat("a", api.MaxText)
	wantMeets(t, text(full), text(strings.ToUpper(full)), true)
	wantMeets(t, text("="+full), text(full), false)
	wantMeets(t, text("="+full[1:]), text(full[1:]), true)
	wantMeets(t, text("<>"+full[2:]), text(full), true)
	wantMeets(t, text("<>"+full[1:]), text(full), false)
}

// P18.1: drawn criteria and values.
func TestMeetsDrawn(t *testing.T) {
	d := draws(5)
	for range 25000 {
		v := d.value()
		c := d.value()
		if d.yes() {
			rest := ""
			for range d.below(4) {
				rest += pick(&d, "1", "2", "-", ".", "e", "a", "B", "=", "<", ">", " ", "TRUE", "#N/A")
			}
			c = text(pick(&d, "", "=", "<>", "<", "<=", ">", ">=") + rest)
		}
		wantMeets(t, c, v, meets(c, v))
		for _, sign := range []string{"=", "<>", "<", "<=", ">", ">="} {
			for _, x := range []api.Value{num(1), num(12), num(-1), num(0.2), text("a"), text("b")} {
				wantMeets(t, text(sign+map[bool]string{true: c.Text, false: "1"}[c.Kind == api.VText && len(c.Text) < 100]), x, meets(text(sign+map[bool]string{true: c.Text, false: "1"}[c.Kind == api.VText && len(c.Text) < 100]), x))
			}
		}
	}
	if fnstat.Meets(text(">1"), num(math.Nextafter(1, 0))) || !fnstat.Meets(text(">1"), num(math.Nextafter(1, 2))) {
		t.Error("numbers are not held to the last bit")
	}
}
