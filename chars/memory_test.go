package chars_test

import (
	"strings"
	"sync"
	"testing"
	"unsafe"

	"gridiron/chars"
)

// within tells whether an answer lies in the memory of a text.
func within(answer, s string) bool {
	if answer == "" || s == "" {
		return false
	}
	from := uintptr(unsafe.Pointer(unsafe.StringData(s)))
	at := uintptr(unsafe.Pointer(unsafe.StringData(answer)))
	return at < from+uintptr(len(s)) && from < at+uintptr(len(answer))
}

// R3: answers are new memory, though they say what was handed in.
func TestAnswersAreNew(t *testing.T) {
	s := strings.Repeat("a", 40) + ":" + strings.Repeat("b", 40)
	prefix, own, _ := chars.Split(s)
	_, whole, _ := chars.Split(s[:40])
	escaped, _ := chars.Escape(s, true)
	unescaped, _, _ := chars.Unescape(s)
	for name, answer := range map[string]string{
		"Split, its prefix": prefix, "Split, its name": own, "Split without a prefix": whole, "Escape": escaped, "Unescape": unescaped,
		"Lines": chars.Lines(s), "Cut": chars.Cut(s, 0, 99), "Cut, a piece": chars.Cut(s, 3, 9), "Upper": chars.Upper(s[41:]), "Lower": chars.Lower(s),
	} {
		if answer == "" || within(answer, s) {
			t.Errorf("%s: %q lies in what was handed in", name, answer)
		}
	}
}

// R3: what an iterator tells is as it was when the iterator was asked for, though the bytes behind the text become others.
func TestRunesKeepTheirOwn(t *testing.T) {
	b := []byte("abc")
	seq := chars.Runes(unsafe.String(&b[0], len(b)))
	copy(b, "xyz")
	got := ""
	for _, r := range seq {
		got += string(r)
	}
	if got != "abc" {
		t.Errorf("Runes: %q", got)
	}
}

// R4: calls at the same time know nothing of each other.
func TestAtTheSameTime(t *testing.T) {
	seq := chars.Runes(mixed)
	var all sync.WaitGroup
	for range 8 {
		all.Go(func() {
			for range 50 {
				check(t, mixed)
				check(t, "&amp;é\r\n<a:b>")
				n := 0
				for range seq {
					n++
				}
				if n != 10 {
					t.Errorf("Runes: %d characters", n)
				}
			}
		})
	}
	all.Wait()
}
