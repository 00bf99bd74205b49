package value_test

import (
	"math"
	"strings"
	"testing"

	"gridiron/api"
	"gridiron/value"
)

// P9.5: each code has its text, and no other number has one.
func TestErrText(t *testing.T) {
	want := map[int]string{
		api.ENull: "#NULL!", api.EDiv: "#DIV/0!", api.EValue: "#VALUE!", api.ERef: "#REF!", api.EName: "#NAME?", api.ENum: "#NUM!", api.ENA: "#N/A", api.ECycle: "#CYCLE!", api.ELimit: "#LIMIT!",
	}
	for code := -300; code <= 300; code++ {
		if s := value.ErrText(code); s != want[code] {
			t.Errorf("ErrText(%d): %q, want %q", code, s, want[code])
		}
	}
	for _, code := range []int{math.MaxInt, math.MinInt, math.MinInt + 1, 1 << 32, 1<<32 + 1, -1 << 32} {
		if s := value.ErrText(code); s != "" {
			t.Errorf("ErrText(%d): %q", code, s)
		}
	}
	for code, s := range want {
		if n, ok := value.ParseErr(s); n != code || !ok {
			t.Errorf("ParseErr(%q): %d, %v", s, n, ok)
		}
	}
}

func wantNoErr(t *testing.T, s string) {
	t.Helper()
	if n, ok := value.ParseErr(s); n != 0 || ok {
		t.Errorf("ParseErr(%q): %d, %v", s, n, ok)
	}
}

// P9.5: a text is an error's to the last byte or not at all.
func TestParseErrRefuses(t *testing.T) {
	for _, s := range append(append([]string{"#", "#NULL", "NULL!", "#DIV/0", "#DIV0!", "#N/A!", "#NA", "#NAME!", "#ERR", "#ERR!", "Err:502", "#CIRC!", "#SPILL!", "#VALUE!#VALUE!", strings.Repeat("#", api.MaxText+1)}, plain...), strange...) {
		if s != "#N/A" && s != "#VALUE!" {
			wantNoErr(t, s)
		}
	}
	for code := 1; code <= 9; code++ {
		s := modelErrText(code)
		wantNoErr(t, strings.ToLower(s))
		for i := range s {
			wantNoErr(t, s[:i])
			wantNoErr(t, s[i+1:])
			if small := strings.ToLower(s[i : i+1]); small != s[i:i+1] {
				wantNoErr(t, s[:i]+small+s[i+1:])
				wantNoErr(t, s[:i]+strings.ToLower(s[i:]))
			}
			for b := range 256 {
				if byte(b) != s[i] {
					wantNoErr(t, s[:i]+string([]byte{byte(b)})+s[i+1:])
				}
			}
		}
		for _, more := range []string{" ", "!", "?", "x", "\x00", "\n", "\xff", "A"} {
			wantNoErr(t, s+more)
			wantNoErr(t, more+s)
		}
	}
}

func wantShow(t *testing.T, v api.Value, want string) {
	t.Helper()
	if got := value.Show(v); got != want {
		t.Errorf("Show(%s): %.60q, want %.60q", told(v), got, want)
	}
}

func checkShow(t *testing.T, v api.Value) {
	t.Helper()
	wantShow(t, v, modelShow(v))
}

// P9.5: what is shown of each kind; nothing, where there is no text.
func TestShow(t *testing.T) {
	wantShow(t, api.Value{}, "")
	wantShow(t, value.Bool(true), "TRUE")
	wantShow(t, value.Bool(false), "FALSE")
	for x, s := range map[float64]string{0: "0", 1.5: "1.5", -0.1: "-0.1", 1e21: "1E21", 1e-7: "1E-7", math.NaN(): "", most: "", least: ""} {
		wantShow(t, value.Num(x), s)
	}
	wantShow(t, value.Num(below0), "0")
	for s, want := range map[string]string{
		"": `""`, "a": `"a"`, `"`: `""""`, `a"b`: `"a""b"`, `"a`: `"""a"`, `a"`: `"a"""`, `""`: `""""""`, `a""b`: `"a""""b"`, "'": `"'"`, "\\": `"\"`, "\n": "\"\n\"", "\xff": "\"\xff\"", "\xff\"": "\"\xff\"\"\"", "é\"€": `"é""€"`, "TRUE": `"TRUE"`, "1": `"1"`, "#N/A": `"#N/A"`, "“": `"“"`,
	} {
		wantShow(t, value.Text(s), want)
	}
	for _, code := range codes {
		wantShow(t, value.Err(code), modelErrText(code))
	}
	for _, kind := range kinds {
		wantShow(t, api.Value{Kind: kind, Num: 1, Text: "x", Yes: true, Err: 1}, "")
	}
}

// P9.5, R1: all kinds of values; what stands in the field of another kind is not shown.
func TestShowAll(t *testing.T) {
	for _, v := range clean() {
		checkShow(t, v)
		for _, other := range soiled(v) {
			wantShow(t, other, modelShow(v))
		}
	}
	d := draws(5)
	for i := range 20000 {
		checkShow(t, d.value(i%5))
	}
	checkShow(t, value.Text(strings.Repeat(`"a`, api.MaxText)))
}
