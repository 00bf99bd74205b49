package numfmt_test

import (
	"fmt"
	"math"
	"slices"
	"sync"
	"testing"

	"gridiron/api"
	"gridiron/numfmt"
)

// strangeFormats are some that may not be, in each way that could make a call stumble.
func strangeFormats() []api.Format {
	ends := []int{math.MinInt, -1, 0, 1, 14, 15, math.MaxInt}
	var out []api.Format
	for _, n := range ends {
		for kind := -1; kind <= 8; kind++ {
			out = append(out,
				api.Format{Kind: kind, Pieces: []api.Piece{{Kind: n}}},
				api.Format{Kind: kind, Pieces: []api.Piece{{Kind: api.PNumber, Min: n, Places: n}}},
				api.Format{Kind: kind, Pieces: []api.Piece{{Kind: api.PSci, Min: n, Places: n, Exp: n}}},
				api.Format{Kind: kind, Pieces: []api.Piece{{Kind: api.PSeconds, Places: n}}},
				api.Format{Kind: kind, Pieces: []api.Piece{{Kind: api.PText, Text: "\xff"}}, Maps: []api.Map{{Op: n, Value: math.NaN(), To: n}}},
				api.Format{Kind: kind, Maps: []api.Map{{Op: api.NNe, Value: math.Inf(1), To: n}}, Whole: true},
			)
		}
		out = append(out, api.Format{Kind: n})
	}
	return out
}

// R1: every call ends and none panics, whatever it is given.
func TestNoPanic(t *testing.T) {
	l := strangeFormats()
	values := []api.Value{{}, num(1), num(-1.5), num(math.NaN()), num(most), num(below0), text("\xff"), text("x"), truth(true), fault(3), fault(-1), {Kind: 9}, {Kind: math.MinInt, Num: 1}}
	for at, f := range l {
		for _, v := range values {
			checkShow(t, l, at, v)
			checkShow(t, l[:at], at, v)
			checkShow(t, l[at:], 0, v)
		}
		for _, many := range []int{math.MinInt, -1, 0, 1, math.MaxInt} {
			wantCheck(t, f, many, modelCheck(f, many))
		}
		numfmt.Same(f, l[(at*7+3)%len(l)])
	}
}

// deep is a list of formats of which no part is shared with another.
func deep(l []api.Format) []api.Format {
	out := slices.Clone(l)
	for i, f := range out {
		out[i].Pieces, out[i].Maps = slices.Clone(f.Pieces), slices.Clone(f.Maps)
	}
	return out
}

// roomy is a list of formats with something in the room behind the end of each list.
func roomy(l []api.Format) []api.Format {
	out := append(deep(l), api.Format{Kind: 77, Whole: true})
	for i, f := range out {
		out[i].Pieces = append(f.Pieces, api.Piece{Kind: 78, Text: "y"})
		out[i].Maps = append(f.Maps, api.Map{Op: 79, To: 5})
	}
	for i := range out[:len(l)] {
		out[i].Pieces = out[i].Pieces[:len(l[i].Pieces)]
		out[i].Maps = out[i].Maps[:len(l[i].Maps)]
	}
	return out[:len(l)]
}

// all is a list of formats as a text, the room behind the end of each list laid open.
func all(l []api.Format) string {
	out := slices.Clone(l[:cap(l)])
	for i, f := range out {
		out[i].Pieces, out[i].Maps = f.Pieces[:cap(f.Pieces)], f.Maps[:cap(f.Maps)]
	}
	return fmt.Sprintf("%#v", out)
}

// R3: what is handed in is left as it is, and so is the room behind its end, which counts for nothing.
func TestLeftAsItIs(t *testing.T) {
	d := draws(51)
	for range 1000 {
		bare := d.formats(d.yes())
		l := roomy(bare)
		was := all(l)
		v := d.value()
		for at := -1; at <= len(l); at++ {
			if got, want := numfmt.Show(l, at, v), numfmt.Show(bare, at, v); got != want {
				t.Errorf("Show(%s, %d, %s): %q, want %q", told(bare), at, told(v), got, want)
			}
			numfmt.Pick(l, at, v)
		}
		for i, f := range l {
			if numfmt.Check(f, len(l)) != numfmt.Check(bare[i], len(l)) || !numfmt.Same(f, bare[i]) {
				t.Errorf("%s: the room behind its end counts", told(f))
			}
			numfmt.Same(f, l[0])
		}
		if now := all(l); now != was {
			t.Errorf("changed: %s, was %s", now, was)
		}
	}
}

// R4: many at once answer what one does.
func TestAtOnce(t *testing.T) {
	l := each()
	want := make([]string, len(l))
	for at := range l {
		want[at] = numfmt.Show(l, at, num(36526.75))
	}
	var group sync.WaitGroup
	for range 16 {
		group.Go(func() {
			for range 100 {
				for at := range l {
					if got := numfmt.Show(l, at, num(36526.75)); got != want[at] {
						t.Errorf("Show(.., %d, 36526.75): %q, want %q", at, got, want[at])
					}
				}
				if numfmt.Month(3, true) != "March" || numfmt.Weekday(2, false) != "Mon" || numfmt.Check(l[1], 1) != api.OK {
					t.Error("not as by itself")
				}
			}
		})
	}
	group.Wait()
}
