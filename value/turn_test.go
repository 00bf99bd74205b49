package value_test

import (
	"math"
	"strings"
	"sync"
	"testing"

	"gridiron/api"
	"gridiron/value"
)

// turn is one of the three calls that make a value one of a kind.
type turn struct {
	name  string
	kind  int
	call  func(api.Value) api.Value
	model func(api.Value) api.Value
}

func turns() []turn {
	return []turn{
		{"AsNumber", api.VNum, value.AsNumber, modelNumber},
		{"AsText", api.VText, value.AsText, modelText},
		{"AsTruth", api.VBool, value.AsTruth, modelTruth},
	}
}

func wantTurn(t *testing.T, c turn, v, want api.Value) {
	t.Helper()
	if got := c.call(v); !modelSame(got, want) {
		t.Errorf("%s(%s): %s, want %s", c.name, told(v), told(got), told(want))
	}
}

// P9.3: the chapter's examples, and texts that are numbers, that are none, and that are too long.
func TestAsNumber(t *testing.T) {
	c := turns()[0]
	wantTurn(t, c, api.Value{}, value.Num(0))
	wantTurn(t, c, value.Bool(true), value.Num(1))
	wantTurn(t, c, value.Bool(false), value.Num(0))
	wantTurn(t, c, value.Num(2.5), value.Num(2.5))
	wantTurn(t, c, value.Num(below0), value.Num(0))
	for _, x := range []float64{math.NaN(), nan1, nan2, nan3, most, least} {
		wantTurn(t, c, value.Num(x), value.Err(api.ENum))
	}
	for s, x := range map[string]float64{
		"1.5": 1.5, "5": 5, "-5": -5, "007": 7, "1e3": 1000, "1E+3": 1000, "-1E-3": -0.001, "0": 0, "-0": 0, "-0.0": 0, "-0e9": 0, "-1e-999": 0, "1e-999": 0, "5e-324": math.SmallestNonzeroFloat64, "1.7976931348623157E308": math.MaxFloat64, "0.1": 0.1,
		strings.Repeat("0", api.MaxText-1) + "7": 7, "1" + strings.Repeat("0", api.MaxText-8) + "e-32759": 10,
	} {
		wantTurn(t, c, value.Text(s), value.Num(x))
	}
	for _, s := range []string{
		"", "x", "-", "+1", ".5", "1.", "1e", "e1", " 1", "1 ", "1,5", "1x", "1e999", "-1e999", "1.8E308", "0x10", "Inf", "inf", "NaN", "Infinity", "1_000", "TRUE", "FALSE", "true", "#N/A", "\xff", "1\xff", "\xff1", "٣", "１", "1\x00", "\"1\"", "1%", "--1", "12:00",
		strings.Repeat("0", api.MaxText) + "7", strings.Repeat("1", api.MaxText+1), strings.Repeat("x", api.MaxText+1),
	} {
		wantTurn(t, c, value.Text(s), value.Err(api.EValue))
	}
}

// P9.3: numbers with and without a power of ten; what is no number has no text.
func TestAsText(t *testing.T) {
	c := turns()[1]
	wantTurn(t, c, api.Value{}, value.Text(""))
	wantTurn(t, c, value.Bool(true), value.Text("TRUE"))
	wantTurn(t, c, value.Bool(false), value.Text("FALSE"))
	for x, s := range map[float64]string{
		0.1: "0.1", 0: "0", 1: "1", -1.5: "-1.5", 1500: "1500", 1e20: "100000000000000000000", 1e21: "1E21", 1.5e21: "1.5E21", -1e21: "-1E21", 1e-6: "0.000001", 1e-7: "1E-7", -2.5e-7: "-2.5E-7", math.MaxFloat64: "1.7976931348623157E308", math.SmallestNonzeroFloat64: "5E-324",
	} {
		wantTurn(t, c, value.Num(x), value.Text(s))
	}
	wantTurn(t, c, value.Num(below0), value.Text("0"))
	for _, x := range []float64{math.NaN(), nan1, nan2, nan3, most, least} {
		wantTurn(t, c, value.Num(x), value.Err(api.ENum))
	}
	long := strings.Repeat("a", api.MaxText+1)
	for _, s := range append(append([]string{long, long + "\xff", long[1:]}, plain...), strange...) {
		wantTurn(t, c, value.Text(s), value.Text(s))
	}
}

// P9.3: TRUE and FALSE in all letters, and what is near them.
func TestAsTruth(t *testing.T) {
	c := turns()[2]
	wantTurn(t, c, api.Value{}, value.Bool(false))
	wantTurn(t, c, value.Bool(true), value.Bool(true))
	wantTurn(t, c, value.Bool(false), value.Bool(false))
	for _, x := range []float64{1, -1, 0.1, math.MaxFloat64, math.SmallestNonzeroFloat64, -math.SmallestNonzeroFloat64, most, least} {
		wantTurn(t, c, value.Num(x), value.Bool(true))
	}
	wantTurn(t, c, value.Num(0), value.Bool(false))
	wantTurn(t, c, value.Num(below0), value.Bool(false))
	for _, x := range []float64{math.NaN(), nan1, nan2, nan3} {
		wantTurn(t, c, value.Num(x), value.Err(api.ENum))
	}
	for _, s := range []string{"TRUE", "FALSE"} {
		for mask := range 1 << len(s) {
			wantTurn(t, c, value.Text(mixed(s, mask)), value.Bool(s == "TRUE"))
		}
		for i := range len(s) {
			wantTurn(t, c, value.Text(s[:i]+s[i+1:]), value.Err(api.EValue))
			wantTurn(t, c, value.Text(s[:i]+" "+s[i:]), value.Err(api.EValue))
			for b := range 256 {
				// the letter itself, small and large, is no other one
				if byte(b)|0x20 != s[i]|0x20 {
					wantTurn(t, c, value.Text(s[:i]+string([]byte{byte(b)})+s[i+1:]), value.Err(api.EValue))
				}
			}
		}
		for _, more := range []string{" ", "\n", "\t", "\x00", "\u00a0", "E", "x", "!", "()", "\xff", "\ufeff"} {
			wantTurn(t, c, value.Text(s+more), value.Err(api.EValue))
			wantTurn(t, c, value.Text(more+s), value.Err(api.EValue))
		}
	}
	for _, s := range []string{"", " ", "1", "0", "yes", "no", "T", "F", "t", "WAHR", "falſe", "fALſE", "ＴＲＵＥ", "\"TRUE\"", "\xff", strings.Repeat("TRUE", api.MaxText)} {
		wantTurn(t, c, value.Text(s), value.Err(api.EValue))
	}
}

// mixed is a text of large letters with small ones at the places of mask.
func mixed(s string, mask int) string {
	out := []byte(s)
	for i := range out {
		if mask>>i&1 == 1 {
			out[i] |= 0x20
		}
	}
	return string(out)
}

// P9.3: an error of each code stays; one of another code, and what is of no kind, is EValue.
func TestTurnsOfErrors(t *testing.T) {
	for _, c := range turns() {
		for code := 1; code <= 9; code++ {
			wantTurn(t, c, value.Err(code), value.Err(code))
		}
		for _, code := range []int{0, 10, -1, -3, 11, 255, 1<<32 + 3, math.MaxInt, math.MinInt} {
			wantTurn(t, c, value.Err(code), value.Err(api.EValue))
		}
		for _, kind := range kinds {
			wantTurn(t, c, api.Value{Kind: kind}, value.Err(api.EValue))
			wantTurn(t, c, api.Value{Kind: kind, Num: 1, Text: "TRUE", Yes: true, Err: 2}, value.Err(api.EValue))
		}
	}
}

// P9.3, R2: what stands in the field of another kind changes nothing, and is not told.
func TestTurnsOfOtherFields(t *testing.T) {
	for _, c := range turns() {
		for _, v := range clean() {
			want := c.model(v)
			wantTurn(t, c, v, want)
			for _, other := range soiled(v) {
				wantTurn(t, c, other, want)
			}
		}
	}
}

// P9.7: a number's text says that number, bit for bit.
func TestNumbersThereAndBack(t *testing.T) {
	d := draws(2)
	for i := range 100000 {
		x := d.float()
		if i < len(numbers) && value.Check(value.Num(numbers[i])) == api.OK {
			x = numbers[i]
		}
		v := value.Num(x)
		if back := value.AsNumber(value.AsText(v)); !value.Same(back, v) {
			t.Errorf("AsNumber of AsText of %v: %s", x, told(back))
		}
	}
}

// checkTurned looks whether a turn's answer is well formed, of its kind or an error (P9.7), and as the model has it (P9.3).
func checkTurned(t *testing.T, v api.Value) {
	t.Helper()
	for _, c := range turns() {
		got := c.call(v)
		if value.Check(got) != api.OK || got.Kind != c.kind && got.Kind != api.VErr {
			t.Errorf("%s(%s): %s", c.name, told(v), told(got))
		}
		wantTurn(t, c, v, c.model(v))
	}
}

// P9.7: what the three turns answer of well-formed values is well formed.
func TestTurnsAnswerWellFormed(t *testing.T) {
	for _, v := range clean() {
		if value.Check(v) == api.OK {
			checkTurned(t, v)
		}
	}
	for _, s := range []string{"a", "1", "\""} {
		checkTurned(t, value.Text(strings.Repeat(s, api.MaxText)))
	}
	d := draws(3)
	for i := range 50000 {
		checkTurned(t, d.value(i%5))
	}
	// numbers and truths are well formed behind their turns, even of what is not
	for _, v := range clean() {
		for _, other := range append(soiled(v), v) {
			if value.Check(value.AsNumber(other)) != api.OK || value.Check(value.AsTruth(other)) != api.OK {
				t.Errorf("AsNumber or AsTruth of %s is not well formed", told(other))
			}
		}
	}
}

// R4: calls at the same time know nothing of each other.
func TestAtTheSameTime(t *testing.T) {
	var all sync.WaitGroup
	for seed := range 8 {
		all.Go(func() {
			d := draws(100 + seed)
			for i := range 2000 {
				a, b := d.value(i%5), d.value(d.below(5))
				checkTurned(t, a)
				checkOrder(t, a, b)
				checkShow(t, a)
				wantCheck(t, a, api.OK)
			}
		})
	}
	all.Wait()
}
