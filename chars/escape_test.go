package chars_test

import (
	"strings"
	"testing"

	"gridiron/api"
	"gridiron/chars"
)

// P5.3: each sign that is written otherwise, in both kinds, and some that are not.
func TestEscape(t *testing.T) {
	for _, c := range []struct{ s, text, attr string }{
		{"", "", ""}, {"a<b", "a&lt;b", "a&lt;b"}, {"&", "&amp;", "&amp;"}, {"<", "&lt;", "&lt;"}, {">", "&gt;", "&gt;"}, {"\r", "&#13;", "&#13;"},
		{"\"", "\"", "&quot;"}, {"\t", "\t", "&#9;"}, {"\n", "\n", "&#10;"}, {"'", "'", "'"}, {" ", " ", " "},
		{"a<b\"\n", "a&lt;b\"\n", "a&lt;b&quot;&#10;"}, {"\r\n", "&#13;\n", "&#13;&#10;"}, {"&amp;", "&amp;amp;", "&amp;amp;"}, {"&&", "&amp;&amp;", "&amp;&amp;"},
		{"é<€>\U0001F600&\uFFFD", "é&lt;€&gt;\U0001F600&amp;\uFFFD", "é&lt;€&gt;\U0001F600&amp;\uFFFD"}, {"]]>", "]]&gt;", "]]&gt;"}, {"\u0085\u2028", "\u0085\u2028", "\u0085\u2028"},
	} {
		if got, errno := chars.Escape(c.s, false); got != c.text || errno != api.OK {
			t.Errorf("Escape(%q, false): %q, %d", c.s, got, errno)
		}
		if got, errno := chars.Escape(c.s, true); got != c.attr || errno != api.OK {
			t.Errorf("Escape(%q, true): %q, %d", c.s, got, errno)
		}
	}
}

// P5.3, R2: what is not valid is refused, and nothing stands beside the error.
func TestEscapeWrong(t *testing.T) {
	for _, s := range []string{"\x00", "a\x00", "<\x01>", "\xff", "a\xff", "<\xc3", "\xed\xa0\x80", "\xc0\x80", "\uFFFE", "a\uFFFF", "\v", "<&>\x1f"} {
		for _, attr := range []bool{false, true} {
			if got, errno := chars.Escape(s, attr); got != "" || errno != api.ErrChar {
				t.Errorf("Escape(%q, %v): %q, %d", s, attr, got, errno)
			}
		}
	}
}

// P5.3: each reference by itself, and among other things.
func TestUnescape(t *testing.T) {
	for s, want := range map[string]string{
		"&#x41;&amp;": "A&", "": "", "a": "a", "&amp;": "&", "&lt;": "<", "&gt;": ">", "&quot;": "\"", "&apos;": "'",
		"&#65;": "A", "&#x41;": "A", "&#xe9;": "é", "&#xE9;": "é", "&#xaBcD;": "\uABCD", "&#xfFfD;": "\uFFFD", "&#233;": "é", "&#128512;": "\U0001F600", "&#x1F600;": "\U0001F600",
		"&#9;": "\t", "&#10;": "\n", "&#13;": "\r", "&#x9;": "\t", "&#xA;": "\n", "&#xd;": "\r", "&#32;": " ", "&#x10FFFF;": "\U0010FFFF", "&#1114111;": "\U0010FFFF",
		"&#xD7FF;": "\uD7FF", "&#xE000;": "\uE000", "&#x10000;": "\U00010000", "&#55295;": "\uD7FF",
		"&#0065;": "A", "&#x0041;": "A", "&#x00000000000000000000000000041;": "A", "&#0000000000000000000000000000000000065;": "A",
		"é&lt;é": "é<é", "&lt;a&gt;": "<a>", "a;b": "a;b", ";": ";", "#65;": "#65;", "&amp;lt;": "&lt;", "&#38;#65;": "&#65;", "&amp;;": "&;", "&#38;&#38;": "&&",
		"<>\"'\t\n\r": "<>\"'\t\n\r", "\uFFFD&#65;": "\uFFFDA",
	} {
		if got, at, errno := chars.Unescape(s); got != want || at != 0 || errno != api.OK {
			t.Errorf("Unescape(%q): %q, %d, %d, want %q", s, got, at, errno, want)
		}
	}
}

// P5.3, R2: what begins no reference, or says no character, with the place of its &.
func TestUnescapeNoReference(t *testing.T) {
	for s, want := range map[string]int{
		"a&b": 1, "&": 0, "a&": 1, "é&": 2, "&;": 0, "& amp;": 0, "&amp ;": 0, "& ;": 0, "&&amp;": 0, "&amp;&": 5, "&amp;&;&": 5, "&&": 0,
		"&amp": 0, "&lt": 0, "&gt": 0, "&quot": 0, "&apos": 0, "&#65": 0, "&#x41": 0, "a&#65 ;": 1, "&am": 0, "&ampl;": 0, "&AMP;": 0, "&Lt;": 0, "&nbsp;": 0, "&a&amp;": 0,
		"&#": 0, "&#;": 0, "&#x": 0, "&#x;": 0, "&#X41;": 0, "&x41;": 0, "&#a;": 0, "&#4a;": 0, "&#4A;": 0, "&#xg;": 0, "&#xG1;": 0, "&#x4 1;": 0,
		"&#-65;": 0, "&#+65;": 0, "&#x-41;": 0, "&#6_5;": 0, "&#0x41;": 0, "&#xx41;": 0, "&##65;": 0, "&# 65;": 0, "&#65.;": 0, "&#٣;": 0, "&#x４;": 0, "&#/;": 0, "&#:;": 0, "&#x@;": 0, "&#6/;": 0, "&#5:;": 0, "&#x4/;": 0, "&#x4:;": 0, "&#x4@;": 0, "&#x4`;": 0, "&#x4g;": 0, "&#x4G;": 0, "&#x`;": 0,
		"&#0;": 0, "&#x0;": 0, "&#00;": 0, "&#8;": 0, "&#11;": 0, "&#x1F;": 0, "&#xD800;": 0, "&#xDFFF;": 0, "&#55296;": 0, "&#xFFFE;": 0, "&#xFFFF;": 0, "&#65535;": 0,
		"&#x110000;": 0, "&#1114112;": 0, "&#xFFFFFFFF;": 0, "&#4294967361;": 0, "&#x100000041;": 0, "&#x10000000000000041;": 0, "&#18446744073709551681;": 0, "&#340282366920938463463374607431768211521;": 0, "&#99999999999999999999999999999999;": 0, "&#x80000041;": 0, "&#2147483713;": 0,
		"&lt;&#0;&b": 4, "a&b&#0;": 1, "&amp;&amp": 5, "&#65;&#X41;&": 5,
	} {
		if got, at, errno := chars.Unescape(s); got != "" || at != want || errno != api.ErrEntity {
			t.Errorf("Unescape(%q): %q, %d, %d, want place %d", s, got, at, errno, want)
		}
	}
}

// P5.3, R2: what is not valid is told ahead of all references, though it stands behind them.
func TestUnescapeNotValid(t *testing.T) {
	for s, want := range map[string]int{
		"\x00": 0, "a\x00": 1, "a&b\x00": 3, "&#0;\xff": 4, "&amp;\xff": 5, "\xff&": 0, "é\xc3": 2, "&\uFFFE": 1, "&#\x00;": 2, "&am\xffp;": 3, "&#x4\xed\xa0\x801;": 4, "&#0;\x00\xff": 4,
	} {
		if got, at, errno := chars.Unescape(s); got != "" || at != want || errno != api.ErrChar {
			t.Errorf("Unescape(%q): %q, %d, %d, want place %d", s, got, at, errno, want)
		}
	}
}

// P5.3, R1: as many digits as there are, and as many references.
func TestUnescapeLong(t *testing.T) {
	noughts := strings.Repeat("0", 1<<20)
	for s, want := range map[string]string{
		"&#" + noughts + "65;": "A", "&#x" + noughts + "10FFFF;": "\U0010FFFF",
		strings.Repeat("&amp;&#x41;", 1<<18): strings.Repeat("&A", 1<<18),
	} {
		if got, at, errno := chars.Unescape(s); got != want || at != 0 || errno != api.OK {
			t.Errorf("Unescape of %d bytes: %d bytes, %d, %d", len(s), len(got), at, errno)
		}
	}
	for _, s := range []string{"&#1" + noughts + ";", "&#x1" + noughts + ";", "&#" + noughts + ";", "&#65" + noughts, strings.Repeat("&", 1<<20), "&" + noughts, "&#" + strings.Repeat("9", 1<<20) + ";"} {
		if got, at, errno := chars.Unescape(s); got != "" || at != 0 || errno != api.ErrEntity {
			t.Errorf("Unescape of %d bytes: %d bytes, %d, %d", len(s), len(got), at, errno)
		}
	}
}

// checkBack asks whether a valid text is there again behind Escape and Unescape, and has none of the signs in between.
func checkBack(t *testing.T, s string) {
	t.Helper()
	if _, ok := chars.Valid(s); !ok {
		return
	}
	for _, attr := range []bool{false, true} {
		escaped, errno := chars.Escape(s, attr)
		if errno != api.OK || strings.ContainsAny(escaped, "<>\r") || attr && strings.ContainsAny(escaped, "\"\t\n") {
			t.Errorf("Escape(%q, %v): %q, %d", s, attr, escaped, errno)
		}
		if back, at, errno := chars.Unescape(escaped); back != s || at != 0 || errno != api.OK {
			t.Errorf("Unescape of Escape(%q, %v): %q, %d, %d", s, attr, back, at, errno)
		}
	}
}

// P5.5: each character by itself, all short texts of signs, and texts that look like references.
func TestEscapedAndBack(t *testing.T) {
	for r := rune(0); r < 0x110000; r++ {
		if chars.Char(r) {
			checkBack(t, string(r))
		}
	}
	texts(single("&<>\"'\t\n\r;#a"), 4, func(s string) { checkBack(t, s) })
	for _, s := range []string{"", "&amp;", "&#13;", "&#x0;", "&lt", "&amp;amp;", "\uFFFD", "\r\n\r", "é&é"} {
		checkBack(t, s)
	}
}
