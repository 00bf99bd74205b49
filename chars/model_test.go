package chars_test

import (
	"math/big"
	"regexp"
	"strings"

	"gridiron/api"
)

// piece is a character of a text as the model reads it.
type piece struct {
	at   int
	r    rune
	text string
	well bool // well-formed UTF-8
}

// shapes are the byte sequences that are well-formed UTF-8, as the Unicode standard lists them (table 3-7): for each byte its least and its greatest value.
var shapes = [][]byte{
	{0x00, 0x7F},
	{0xC2, 0xDF, 0x80, 0xBF},
	{0xE0, 0xE0, 0xA0, 0xBF, 0x80, 0xBF},
	{0xE1, 0xEC, 0x80, 0xBF, 0x80, 0xBF},
	{0xED, 0xED, 0x80, 0x9F, 0x80, 0xBF},
	{0xEE, 0xEF, 0x80, 0xBF, 0x80, 0xBF},
	{0xF0, 0xF0, 0x90, 0xBF, 0x80, 0xBF, 0x80, 0xBF},
	{0xF1, 0xF3, 0x80, 0xBF, 0x80, 0xBF, 0x80, 0xBF},
	{0xF4, 0xF4, 0x80, 0x8F, 0x80, 0xBF, 0x80, 0xBF},
}

// fits tells whether a text begins with bytes of a shape.
func fits(s string, shape []byte) bool {
	if len(s) < len(shape)/2 {
		return false
	}
	for i := 0; i < len(shape); i += 2 {
		if s[i/2] < shape[i] || s[i/2] > shape[i+1] {
			return false
		}
	}
	return true
}

// pieces are the characters of a text, found by the shapes alone.
func pieces(s string) []piece {
	var all []piece
	for at := 0; at < len(s); {
		next := piece{at: at, r: 0xFFFD, text: s[at : at+1]}
		for _, shape := range shapes {
			if !fits(s[at:], shape) {
				continue
			}
			width := len(shape) / 2
			number := rune(s[at])
			if width > 1 {
				number &= 0x7F >> width
			}
			for _, c := range []byte(s[at+1 : at+width]) {
				number = number*64 + rune(c&0x3F)
			}
			next = piece{at, number, s[at : at+width], true}
		}
		all = append(all, next)
		at += len(next.text)
	}
	return all
}

func modelValid(s string) (int, bool) {
	for _, p := range pieces(s) {
		if !p.well || !listed(p.r, xmlChars) {
			return p.at, false
		}
	}
	return 0, true
}

func modelName(s string) bool {
	if _, ok := modelValid(s); !ok || s == "" {
		return false
	}
	for i, p := range pieces(s) {
		if !listed(p.r, nameStarts) && (i == 0 || !listed(p.r, nameMores)) {
			return false
		}
	}
	return true
}

// modelSplit tries each way to part a text at a colon.
func modelSplit(s string) (string, string, bool) {
	if modelName(s) {
		return "", s, true
	}
	for i := range len(s) {
		if s[i] == ':' && modelName(s[:i]) && modelName(s[i+1:]) {
			return s[:i], s[i+1:], true
		}
	}
	return "", "", false
}

func modelEscape(s string, attr bool) (string, api.Errno) {
	if _, ok := modelValid(s); !ok {
		return "", api.ErrChar
	}
	s = strings.ReplaceAll(s, "&", "&amp;")
	s = strings.ReplaceAll(s, "<", "&lt;")
	s = strings.ReplaceAll(s, ">", "&gt;")
	s = strings.ReplaceAll(s, "\x0D", "&#13;")
	if attr {
		s = strings.ReplaceAll(s, "\"", "&quot;")
		s = strings.ReplaceAll(s, "\x09", "&#9;")
		s = strings.ReplaceAll(s, "\x0A", "&#10;")
	}
	return s, api.OK
}

var anyReference = regexp.MustCompile(`^&(amp|lt|gt|quot|apos|#([0-9]+)|#x([0-9a-fA-F]+));`)

// modelReference is the character and the width of the reference at the beginning of a text.
func modelReference(s string) (string, int, bool) {
	found := anyReference.FindStringSubmatch(s)
	if found == nil {
		return "", 0, false
	}
	base, digits := 10, found[2]
	if found[3] != "" {
		base, digits = 16, found[3]
	}
	if digits == "" {
		return map[string]string{"amp": "&", "lt": "<", "gt": ">", "quot": "\"", "apos": "'"}[found[1]], len(found[0]), true
	}
	number, _ := new(big.Int).SetString(digits, base)
	if number.Cmp(big.NewInt(0x10FFFF)) > 0 || !listed(rune(number.Int64()), xmlChars) {
		return "", 0, false
	}
	return string(rune(number.Int64())), len(found[0]), true
}

func modelUnescape(s string) (string, int, api.Errno) {
	if at, ok := modelValid(s); !ok {
		return "", at, api.ErrChar
	}
	out := ""
	for at := 0; at < len(s); {
		if s[at] != '&' {
			out += s[at : at+1]
			at++
			continue
		}
		said, width, ok := modelReference(s[at:])
		if !ok {
			return "", at, api.ErrEntity
		}
		out += said
		at += width
	}
	return out, 0, api.OK
}

func modelLines(s string) string {
	return strings.ReplaceAll(strings.ReplaceAll(s, "\r\n", "\n"), "\r", "\n")
}

func modelCut(s string, from, n int) string {
	out := ""
	for i, p := range pieces(s) {
		if i >= from && n > 0 {
			out += p.text
			n--
		}
	}
	return out
}

// modelCase is a text with other bytes for some of its bytes.
func modelCase(s, these, those string) string {
	out := []byte(s)
	for i, c := range out {
		if k := strings.IndexByte(these, c); k >= 0 {
			out[i] = those[k]
		}
	}
	return string(out)
}
