package lexis_test

import (
	"slices"
	"strings"
	"sync"
	"testing"
	"unsafe"

	"gridiron/api"
	"gridiron/lexis"
)

// P12.3: drawn tokens by themselves, and rows of them.
func TestThereAndBack(t *testing.T) {
	d := draws(3)
	for range 20000 {
		x := d.lexeme()
		written, errno := modelText(x)
		if got, e := lexis.Text(x); errno != api.OK || got != written || e != api.OK {
			t.Errorf("Text(%s): %s, %d, want %s, %d", told(x), short(got), e, short(written), errno)
		}
		l := []api.Lexeme{x}
		for range d.below(12) {
			l = append(l, d.lexeme())
		}
		checkBack(t, l)
	}
	// each two of some, with each blank between them
	some := []api.Lexeme{num(0, 1), num(0, 0.5), num(0, 1e30), text(0, ""), text(0, `"`), text(0, "a b"), ref(0, ".A1"), ref(0, "'x y'.A1:.B2"), name(0, "a"), name(0, "E5"), name(0, "_."), failure(0, api.ENA), failure(0, api.EName)}
	for _, s := range everySign() {
		some = append(some, sign(0, s))
	}
	for _, a := range some {
		for _, b := range some {
			first, _ := lexis.Text(a)
			second, _ := lexis.Text(b)
			for _, blank := range strings.Split(blanks, "") {
				b.At = len(first) + 1
				want(t, first+blank+second, a, b)
			}
		}
	}
}

// P12.2: drawn tokens with fields filled by anything, held against the model.
func TestTextDrawn(t *testing.T) {
	d := draws(4)
	seen := map[api.Errno]int{}
	for range 100000 {
		x := d.soiled()
		want, e := modelText(x)
		got, errno := lexis.Text(x)
		if got != want || errno != e {
			t.Errorf("Text(%s): %s, %d, want %s, %d", told(x), short(got), errno, short(want), e)
		}
		seen[errno]++
		if back, _, e := lexis.Tokens(got); errno == api.OK && (len(back) != 1 || back[0] != without(x) || e != api.OK) {
			t.Errorf("Tokens(Text(%s)): %s, %d", told(x), told(back), e)
		}
	}
	if seen[api.OK] < 1000 || seen[api.ErrArg] < 1000 || seen[api.ErrLexText] < 100 {
		t.Errorf("drawn: %v", seen)
	}
}

const several = `=SUM([.A1];"x""y"; 1.5) & #N/A <= z`

// P12.1, R3: All is left at each token, and gone over again as if it had not been.
func TestAllLeft(t *testing.T) {
	for _, s := range []string{several, several + " ?", several + ` "`, several + "[", several + "1.", " ", "?", ""} {
		whole, _, _ := modelTokens(s)
		seq := lexis.All(s)
		for stop := range len(whole) + 1 {
			n := 0
			for i, x := range seq {
				if i != n || !alike(x, whole[n]) {
					t.Errorf("All(%s): %d, %s, want %s", short(s), i, told(x), told(whole[n]))
				}
				if n++; n > stop {
					break
				}
			}
			if n != min(stop+1, len(whole)) {
				t.Errorf("All(%s), left at %d: %d", short(s), stop, n)
			}
		}
		for range 3 {
			var again []api.Lexeme
			for _, x := range seq {
				again = append(again, x)
			}
			if !allAlike(again, whole) {
				t.Errorf("All(%s) again: %s", short(s), told(again))
			}
		}
	}
}

// R3: a pass within a pass of the same iterator.
func TestAllNested(t *testing.T) {
	whole, _, _ := modelTokens(several)
	seq := lexis.All(several)
	pairs := 0
	for i, x := range seq {
		for k, y := range seq {
			if !alike(x, whole[i]) || !alike(y, whole[k]) {
				t.Errorf("%d, %d: %s, %s", i, k, told(x), told(y))
			}
			pairs++
		}
	}
	if pairs != len(whole)*len(whole) {
		t.Errorf("%d pairs", pairs)
	}
}

// All passes on a panic of the loop that goes over it, and can be gone over again.
func TestAllThrown(t *testing.T) {
	seq := lexis.All(several)
	func() {
		defer func() {
			if recover() != "mine" {
				t.Error("the panic was caught")
			}
		}()
		for range seq {
			panic("mine")
		}
	}()
	n := 0
	for range seq {
		n++
	}
	if whole, _, _ := modelTokens(several); n != len(whole) {
		t.Errorf("%d tokens", n)
	}
}

// within tells whether an answer lies in the memory of a text.
func within(answer, s string) bool {
	if answer == "" || s == "" {
		return false
	}
	from := uintptr(unsafe.Pointer(unsafe.StringData(s)))
	at := uintptr(unsafe.Pointer(unsafe.StringData(answer)))
	return at < from+uintptr(len(s)) && from < at+uintptr(len(answer))
}

// lent is a text over bytes that can be changed.
func lent(s string) ([]byte, string) {
	b := []byte(s)
	return b, unsafe.String(&b[0], len(b))
}

const everyKind = `name_1 <= "plain" + "dou""bled" & [$first.A1:'and last'.B2] ; #N/A % 1.5`

// R3: tokens are new memory, and the formula is left as it is and not kept.
func TestTokensAreNew(t *testing.T) {
	b, s := lent(everyKind)
	l, _, errno := lexis.Tokens(s)
	seq := lexis.All(s)
	told := collected(t, s)
	if errno != api.OK || string(b) != everyKind {
		t.Fatalf("%d, %q", errno, b)
	}
	for _, x := range slices.Concat(l, told) {
		if within(x.Text, s) || within(x.Ref.Sheet, s) || within(x.Ref.To, s) {
			t.Errorf("%+v lies in what was handed in", x)
		}
	}
	want, _, _ := modelTokens(everyKind)
	copy(b, strings.Repeat("#", len(b)))
	if !allAlike(l, want) || !allAlike(told, want) {
		t.Error("tokens change with the formula")
	}
	n := 0
	for i, x := range seq {
		if !alike(x, want[i]) {
			t.Errorf("All has kept the formula: %+v", x)
		}
		n++
	}
	if n != len(want) {
		t.Errorf("All tells %d tokens of a formula that has changed", n)
	}
}

// R3: two answers share nothing, their spare room too.
func TestListsAreOwn(t *testing.T) {
	first, _, _ := lexis.Tokens(several)
	second, _, _ := lexis.Tokens(several)
	want := slices.Clone(second)
	spare := first[len(first):cap(first)]
	for _, x := range spare {
		if x != (api.Lexeme{}) {
			t.Errorf("%+v lies behind the end", x)
		}
	}
	clear(first[:cap(first)])
	third, _, _ := lexis.Tokens(several)
	if !allAlike(second, want) || !allAlike(third, want) {
		t.Error("answers share memory")
	}
}

// R3: texts are new memory, and what is handed in is left as it is.
func TestTextsAreNew(t *testing.T) {
	b, s := lent("name_1 and last <=")
	lexemes := []api.Lexeme{name(0, s[:6]), text(0, s[7:15]), sign(0, s[16:]), {Kind: api.LRef, Ref: api.Ref{Sheet: s[:6], To: s[7:15], Area: true}}}
	written := []string{"name_1", `"and last"`, "<=", "[name_1.A1:'and last'.A1]"}
	var got []string
	for i, x := range lexemes {
		answer, errno := lexis.Text(x)
		if errno != api.OK || answer != written[i] || within(answer, s) {
			t.Errorf("Text: %q, %d, want %q in new memory", answer, errno, written[i])
		}
		got = append(got, answer)
	}
	quoted, _ := lexis.Quote(s[7:15])
	if within(quoted, s) || string(b) != "name_1 and last <=" {
		t.Errorf("Quote: %q, of %q", quoted, b)
	}
	copy(b, strings.Repeat("#", len(b)))
	if !slices.Equal(got, written) || quoted != written[1] {
		t.Errorf("answers change with what was handed in: %q, %q", got, quoted)
	}
}

// R1: every call ends and none panics, whatever it is given.
func TestNoPanic(t *testing.T) {
	for _, c := range []string{`"`, "[", "['", "]", "#", "1", "1.", "1e", "a", "<", " ", "\xff", "\x00", "é", "'", "#N/A", ""} {
		for _, n := range []int{0, 1, 100, 5000, 1 << 16, 1 << 20} {
			s := strings.Repeat(c, n)
			check(t, s)
			if lexis.Name(s) != modelName(s) {
				t.Errorf("Name(%s)", short(s))
			}
			got, errno := lexis.Quote(s)
			if want, e := modelQuote(s); got != want || errno != e {
				t.Errorf("Quote(%s): %s, %d", short(s), short(got), errno)
			}
			for kind := range 9 {
				x := api.Lexeme{Kind: kind, Text: s}
				got, errno := lexis.Text(x)
				if want, e := modelText(x); got != want || errno != e {
					t.Errorf("Text(%s): %s, %d", told(x), short(got), errno)
				}
			}
		}
	}
}

// R4: many at once answer what one does.
func TestAtOnce(t *testing.T) {
	seq := lexis.All(several)
	whole, _, _ := modelTokens(several)
	var all sync.WaitGroup
	for range 8 {
		all.Go(func() {
			for range 50 {
				check(t, several)
				check(t, everyKind)
				check(t, several+"?")
				for i, x := range seq {
					if !alike(x, whole[i]) {
						t.Errorf("All: %s", told(x))
					}
				}
				if got, errno := lexis.Quote(`a"b`); got != `"a""b"` || errno != api.OK {
					t.Errorf("Quote: %q, %d", got, errno)
				}
			}
		})
	}
	all.Wait()
}
