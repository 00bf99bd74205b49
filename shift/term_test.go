package shift_test

import (
	"math"
	"testing"

	"gridiron/api"
	"gridiron/shift"
	"gridiron/syntax"
)

// formula is the term that a formula says.
func formula(s string) api.Term {
	t, at, errno := syntax.Parse(s)
	if errno != api.OK {
		panic(s + ": no formula, at " + told(at))
	}
	return t
}

func wantTerm(t *testing.T, sheets []string, x api.Shift, own string, from, want api.Term) {
	t.Helper()
	if got := shift.Term(sheets, x, own, from); !syntax.Same(got, want) {
		t.Errorf("Term(%q, %s, %q, %s): %s, want %s", sheets, told(x), own, told(from), told(got), told(want))
	}
}

// P15.4: references within each kind of term.
func TestTerm(t *testing.T) {
	sheets := []string{"a", "b", "c"}
	gone := api.Shift{Kind: api.SDelRows, Sheet: "a", At: 1, N: 2}
	for from, want := range map[string]string{
		"=[.A1:.A3]": "=[.A1:.A1]", "=[.A2]": "=#REF!", "=[.A1]": "=[.A1]", "=1": "=1", `="[.A9]"`: `="[.A9]"`, "=#N/A": "=#N/A", "=A9": "=A9",
		"=SUM([.A1:.A3];[.A2];;[.$A$9])": "=SUM([.A1:.A1];#REF!;;[.$A$7])", "=IF(F([.A2]);G(H([.A9])))": "=IF(F(#REF!);G(H([.A7])))",
		"=+[.A4]": "=+[.A2]", "=-[.A3]": "=-#REF!", "=[.A4]%": "=[.A2]%", "=-[.A9]^[.A2]": "=-[.A7]^#REF!",
		"=[.A4]*[.A9]/[.A2]": "=[.A2]*[.A7]/#REF!", "=[.A4]+[.A9]-[.A2]": "=[.A2]+[.A7]-#REF!", "=[.A4]&[.A3]": "=[.A2]&#REF!",
		"=[.A4]=[.A3]": "=[.A2]=#REF!", "=[.A4]<>[.A5]": "=[.A2]<>[.A3]", "=[.A4]<[.A5]": "=[.A2]<[.A3]", "=[.A4]<=[.A5]": "=[.A2]<=[.A3]", "=[.A4]>[.A5]": "=[.A2]>[.A3]", "=[.A4]>=[.A5]": "=[.A2]>=[.A3]",
		"=[.A4]~[.A5:.B9]": "=[.A2]~[.A3:.B7]", "=[.A1:.A9]![.A2:.A3]": "=[.A1:.A7]!#REF!",
		"=([.A4]+([.A2]*([b.A2]-[$A.A4:.A5])))":  "=([.A2]+(#REF!*([b.A2]-[$A.A2:.A3])))",
		"=SUM([a.A2:b.A3])+{1;\"x\"|TRUE;#REF!}": "=SUM([a.A2:b.A3])+{1;\"x\"|TRUE;#REF!}", "=F()+TRUE()+x": "=F()+TRUE()+x",
	} {
		wantTerm(t, sheets, gone, "a", formula(from), formula(want))
		wantTerm(t, sheets, gone, "c", formula("=[.A2]+[a.A2]"), formula("=[.A2]+#REF!"))
		wantTerm(t, sheets, api.Shift{Kind: api.SDelRows, Sheet: "zz", At: 1, N: 2}, "a", formula(from), formula(from))
	}
	wantTerm(t, sheets, api.Shift{Kind: api.SInsCols, Sheet: "b", At: 1, N: 1}, "b", formula("=[.B1]*F([b.A1:.B2];[.AMJ1])"), formula("=[.C1]*F([b.A1:.C2];#REF!)"))
	wantTerm(t, sheets, api.Shift{Kind: api.SDelSheet, Sheet: "b"}, "b", formula("=[.B1]*F([b.A1];[b.A1:c.A1])"), formula("=[.B1]*F(#REF!;[c.A1:c.A1])"))
	wantTerm(t, sheets, api.Shift{Kind: api.SNameSheet, Sheet: "b", Name: "x y"}, "a", formula("=b+B()+\"b\"&[b.A1]"), formula("=b+B()+\"b\"&['x y'.A1]"))
	wantTerm(t, sheets, api.Shift{Kind: api.SMoveSheet, Sheet: "b", At: 2}, "a", formula("=[b.A1:c.A1]"), formula("=[b.A1:c.A1]"))
}

// P15.4: terms that no formula says: references among arrays' items, terms of unknown kinds, and fields that count for nothing.
func TestTermOdd(t *testing.T) {
	sheets := []string{"a", "b", "c"}
	x := api.Shift{Kind: api.SDelRows, Sheet: "a", At: 1, N: 2}
	stays := api.Term{Op: api.NRef, Ref: ref(".A9")}
	moved := api.Term{Op: api.NRef, Ref: ref(".A7")}
	goes := api.Term{Op: api.NRef, Ref: ref(".A2")}
	failed := api.Term{Op: api.NErr, Err: api.ERef}
	for op := -2; op < 30; op++ {
		full := api.Term{Op: op, Num: math.NaN(), Text: "t", Err: 77, Name: "n", Rows: -3, Args: []api.Term{stays, goes, {Op: op}}}
		want := full
		want.Args = []api.Term{moved, failed, {Op: op}}
		if op != api.NRef {
			full.Ref, want.Ref = ref(".A2"), ref(".A2")
		}
		wantTerm(t, sheets, x, "a", full, want)
		wantTerm(t, sheets, x, "a", api.Term{Op: op}, api.Term{Op: op})
	}
	full := api.Term{Op: api.NRef, Num: 1, Text: "t", Err: 7, Name: "n", Rows: 3, Ref: ref(".A9"), Args: []api.Term{goes}}
	want := full
	want.Ref, want.Args = ref(".A7"), []api.Term{failed}
	wantTerm(t, sheets, x, "a", full, want)
	full.Ref = ref(".A2")
	wantTerm(t, sheets, x, "a", full, failed)
	for _, r := range bad() {
		odd := api.Term{Op: api.NRef, Ref: r}
		wantTerm(t, sheets, x, "a", odd, odd)
	}
}

// P15.4: drawn terms, and drawn shifts that may be and that may not; held against the model.
func TestTermEach(t *testing.T) {
	d := draws(4)
	for range 200 {
		sheets := d.sheets()
		x := d.shift(sheets)
		may := shift.Check(sheets, x) == api.OK
		m := modelOf(sheets, api.Shift{})
		if may {
			m = modelOf(sheets, x)
		}
		for range 10 {
			from, own := d.term(sheets, x, 1+d.below(30)), d.name(sheets)
			want := from
			if may {
				want = m.term(own, from)
			}
			wantTerm(t, sheets, x, own, from, want)
		}
	}
}
