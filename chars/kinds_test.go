package chars_test

import (
	"math"
	"strconv"
	"strings"
	"testing"

	"gridiron/chars"
)

// The kinds of characters, in the words of P5.1 (numbers hexadecimal).
const (
	xmlChars   = "9, A, D, 20 to D7FF, E000 to FFFD, 10000 to 10FFFF"
	xmlSpaces  = "20, 9, D, A"
	nameStarts = "41 to 5A, 5F, 61 to 7A, C0 to D6, D8 to F6, F8 to 2FF, 370 to 37D, 37F to 1FFF, 200C, 200D, 2070 to 218F, 2C00 to 2FEF, 3001 to D7FF, F900 to FDCF, FDF0 to FFFD, 10000 to EFFFF"
	nameMores  = "2D, 2E, 30 to 39, B7, 300 to 36F, 203F, 2040"
)

// ends are the first and the last number of each range of a list.
func ends(list string) [][2]rune {
	var all [][2]rune
	for _, part := range strings.Split(list, ", ") {
		first, last, _ := strings.Cut(part, " to ")
		if last == "" {
			last = first
		}
		all = append(all, [2]rune{hex(first), hex(last)})
	}
	return all
}

func hex(digits string) rune {
	n, err := strconv.ParseInt(digits, 16, 32)
	if err != nil {
		panic(err)
	}
	return rune(n)
}

// marks are, for each list, which numbers are in it; made once, since the model asks often.
var marks = map[string][]bool{
	xmlChars: marked(xmlChars), xmlSpaces: marked(xmlSpaces), nameStarts: marked(nameStarts), nameMores: marked(nameMores),
}

func marked(list string) []bool {
	in := make([]bool, 0x110000)
	for _, e := range ends(list) {
		for r := e[0]; r <= e[1]; r++ {
			in[r] = true
		}
	}
	return in
}

// listed tells whether a number is in a list.
func listed(r rune, list string) bool {
	return r >= 0 && r < 0x110000 && marks[list][r]
}

type kind struct {
	name string
	call func(rune) bool
	is   func(rune) bool
}

func kinds() []kind {
	return []kind{
		{"Char", chars.Char, func(r rune) bool { return listed(r, xmlChars) }},
		{"Space", chars.Space, func(r rune) bool { return listed(r, xmlSpaces) }},
		{"NameStart", chars.NameStart, func(r rune) bool { return listed(r, nameStarts) }},
		{"NameChar", chars.NameChar, func(r rune) bool { return listed(r, nameStarts) || listed(r, nameMores) }},
	}
}

// P5.1: each number that there is, and those around the least and the greatest.
func TestKinds(t *testing.T) {
	for _, k := range kinds() {
		for r := rune(-0x200); r < 0x120000; r++ {
			if k.call(r) != k.is(r) {
				t.Errorf("%s(%X): %v", k.name, r, k.call(r))
			}
		}
		for i := range rune(0x200) {
			for _, r := range []rune{math.MinInt32 + i, math.MaxInt32 - i} {
				if k.call(r) {
					t.Errorf("%s(%X): true", k.name, r)
				}
			}
		}
	}
}

// P5.1: the two ends of each range, and the numbers just outside of them, as the document's lists alone tell them.
func TestEndsOfRanges(t *testing.T) {
	lists := map[string]func(rune) bool{xmlChars: chars.Char, xmlSpaces: chars.Space, nameStarts: chars.NameStart, nameStarts + ", " + nameMores: chars.NameChar}
	for list, call := range lists {
		inside := map[rune]bool{}
		for _, e := range ends(list) {
			inside[e[0]], inside[e[1]] = true, true
			if !call(e[0]) || !call(e[1]) {
				t.Errorf("%X to %X: %v, %v", e[0], e[1], call(e[0]), call(e[1]))
			}
		}
		for _, e := range ends(list) {
			if call(e[0]-1) != inside[e[0]-1] || call(e[1]+1) != inside[e[1]+1] {
				t.Errorf("just outside of %X to %X: %v, %v", e[0], e[1], call(e[0]-1), call(e[1]+1))
			}
		}
	}
}

// P5.1: single numbers, written out.
func TestSomeKinds(t *testing.T) {
	for _, c := range []struct {
		r                        rune
		char, space, start, name bool
	}{
		{-1, false, false, false, false}, {math.MinInt32, false, false, false, false}, {math.MaxInt32, false, false, false, false},
		{0, false, false, false, false}, {8, false, false, false, false}, {9, true, true, false, false}, {0xA, true, true, false, false},
		{0xB, false, false, false, false}, {0xC, false, false, false, false}, {0xD, true, true, false, false}, {0xE, false, false, false, false},
		{0x1F, false, false, false, false}, {0x20, true, true, false, false}, {0x21, true, false, false, false}, {0x7F, true, false, false, false},
		{':', true, false, false, false}, {'_', true, false, true, true}, {'-', true, false, false, true}, {'.', true, false, false, true},
		{'0', true, false, false, true}, {'9', true, false, false, true}, {'/', true, false, false, false}, {'A', true, false, true, true},
		{'Z', true, false, true, true}, {'@', true, false, false, false}, {'[', true, false, false, false}, {'`', true, false, false, false},
		{'{', true, false, false, false}, {'z', true, false, true, true}, {0x85, true, false, false, false}, {0xA0, true, false, false, false},
		{0xB7, true, false, false, true}, {0xD7, true, false, false, false}, {0xF7, true, false, false, false}, {0x37E, true, false, false, false},
		{0x2003, true, false, false, false}, {0x200B, true, false, false, false}, {0x200C, true, false, true, true}, {0x203F, true, false, false, true},
		{0x2041, true, false, false, false}, {0x3000, true, false, false, false}, {0xD7FF, true, false, true, true}, {0xD800, false, false, false, false},
		{0xDBFF, false, false, false, false}, {0xDC00, false, false, false, false}, {0xDFFF, false, false, false, false}, {0xE000, true, false, false, false},
		{0xFDD0, true, false, false, false}, {0xFEFF, true, false, true, true}, {0xFFFD, true, false, true, true}, {0xFFFE, false, false, false, false},
		{0xFFFF, false, false, false, false}, {0x10000, true, false, true, true}, {0x1FFFE, true, false, true, true}, {0xEFFFF, true, false, true, true},
		{0xF0000, true, false, false, false}, {0x10FFFF, true, false, false, false}, {0x110000, false, false, false, false},
	} {
		if chars.Char(c.r) != c.char || chars.Space(c.r) != c.space || chars.NameStart(c.r) != c.start || chars.NameChar(c.r) != c.name {
			t.Errorf("%X: %v %v %v %v", c.r, chars.Char(c.r), chars.Space(c.r), chars.NameStart(c.r), chars.NameChar(c.r))
		}
	}
}
