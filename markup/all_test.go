package markup_test

import (
	"slices"
	"strings"
	"testing"

	"gridiron/api"
	"gridiron/markup"
)

// draws is a row of numbers that look drawn, the same in each run.
type draws uint64

func (d *draws) below(n int) int {
	*d = *d*6364136223846793005 + 1442695040888963407
	return int(uint64(*d)>>33) % n
}

func (d *draws) pick(from ...string) string {
	return from[d.below(len(from))]
}

// texts goes through all texts of at most so many of the parts.
func texts(parts []string, most int, visit func(string)) {
	var grow func(s string, left int)
	grow = func(s string, left int) {
		visit(s)
		if left == 0 {
			return
		}
		for _, p := range parts {
			grow(s+p, left-1)
		}
	}
	grow("", most)
}

// alike tells whether two tokens are the same in each field.
func alike(a, b api.Token) bool {
	return a.Kind == b.Kind && a.Space == b.Space && a.Local == b.Local && a.Text == b.Text && a.At == b.At && slices.Equal(a.Attrs, b.Attrs)
}

// told are the tokens that All tells.
func told(t *testing.T, doc string) []api.Token {
	t.Helper()
	var all []api.Token
	for i, token := range markup.All([]byte(doc)) {
		if i != len(all) {
			t.Errorf("All(%q): the number %d at token %d", doc, i, len(all))
		}
		all = append(all, token)
	}
	return all
}

// check holds Tokens and All of a document against the model.
func check(t *testing.T, doc string) {
	t.Helper()
	want, wantAt, wantErrno := modelTokens(doc)
	if got := told(t, doc); !slices.EqualFunc(got, want, alike) {
		t.Errorf("All(%q): %v, want %v", doc, got, want)
	}
	if wantErrno != api.OK {
		want = nil
	}
	got, at, errno := markup.Tokens([]byte(doc))
	if !slices.EqualFunc(got, want, alike) || at != wantAt || errno != wantErrno {
		t.Errorf("Tokens(%q): %v, %d, %d, want %v, %d, %d", doc, got, at, errno, want, wantAt, wantErrno)
	}
	if errno == api.OK {
		checkTree(t, doc, got)
	}
}

// checkTree asks whether tokens are those of one tree.
func checkTree(t *testing.T, doc string, l []api.Token) {
	t.Helper()
	var open []api.Token
	for i, token := range l {
		switch token.Kind {
		case api.TokStart:
			open = append(open, token)
			for k, a := range token.Attrs {
				for _, b := range token.Attrs[:k] {
					if a.Space == b.Space && a.Local == b.Local {
						t.Errorf("%q: two attributes of one name at token %d", doc, i)
					}
				}
			}
		case api.TokEnd:
			if len(open) == 0 || open[len(open)-1].Space != token.Space || open[len(open)-1].Local != token.Local {
				t.Fatalf("%q: an end of nothing at token %d", doc, i)
			}
			open = open[:len(open)-1]
		case api.TokText:
			if token.Text == "" || l[i-1].Kind == api.TokText {
				t.Errorf("%q: an empty text, or two texts, at token %d", doc, i)
			}
		default:
			t.Errorf("%q: the kind %d", doc, token.Kind)
		}
		if len(open) == 0 && i != len(l)-1 || i > 0 && token.At <= l[i-1].At {
			t.Errorf("%q: token %d stands behind the element, or ahead of the last one", doc, i)
		}
	}
	if len(l) == 0 || l[0].Kind != api.TokStart || len(open) != 0 {
		t.Errorf("%q: no whole element", doc)
	}
}

// checkAll holds all texts of at most so many parts against the model, between something ahead and something behind.
func checkAll(t *testing.T, ahead string, parts []string, most int, behind string) {
	t.Run(ahead+"|"+behind, func(t *testing.T) {
		t.Parallel()
		texts(parts, most, func(s string) {
			if t.Failed() {
				return
			}
			check(t, ahead+s+behind)
		})
	})
}

func signs(s string) []string {
	var all []string
	for _, c := range s {
		all = append(all, string(c))
	}
	return all
}

// P6.1, P6.2, P6.3, P6.4, R1: all short documents.
func TestAllShort(t *testing.T) {
	all := append(signs("<>/a1:=\"' &;!-?[]x#\r\n\u0085é"), "\xff", "\x01")
	checkAll(t, "", all, 3, "")
	checkAll(t, "<", all, 3, "")
	checkAll(t, "<a", all, 3, "")
	checkAll(t, "<a>", all, 3, "")
	checkAll(t, "<a/>", all, 3, "")
	checkAll(t, "\ufeff", all, 2, "<a/>")
	checkAll(t, "\xef", append(signs("<a/>"), "\xbb", "\xbf", "\xef"), 4, "<a/>")
}

// P6.1, P6.2: all short rows of whole parts, outside of the element.
func TestAllOutside(t *testing.T) {
	parts := []string{" ", "\r\n", "<a/>", "<a>", "</a>", "<!---->", "<!-- - -->", "<?p?>", "<?p  ?>", "x", "&lt;", "<![CDATA[", "]]>", "<!DOCTYPE", "<?xml ", "<?xml version='1.0'?>", "<?xml-x?>", "\ufeff", "<", "\x00"}
	checkAll(t, "", parts, 3, "")
	checkAll(t, "", parts, 3, "<a/>")
	checkAll(t, "<a/>", parts, 3, "")
	checkAll(t, "<b>", parts, 3, "</b>")
}

// P6.1, P6.2, P6.3: all short rows of what stands in a beginning.
func TestAllBeginnings(t *testing.T) {
	parts := append(signs("<>/a:=\"' \t\r&;x"), "x='1'", "b = \"2\"", "é", "\xff", "-1")
	checkAll(t, "<a", parts, 4, "")
	checkAll(t, "<a ", parts, 4, "/>")
	checkAll(t, "<r>t<a x=''", parts, 3, "></a></r>")
}

// P6.1, P6.2: all short rows of attributes and declarations.
func TestAllSpaces(t *testing.T) {
	parts := []string{" x=''", " p:x=''", " q:x=''", " xmlns=''", " xmlns='u'", " xmlns='v'", " xmlns:p='u'", " xmlns:q='u'", " xmlns:p='v'", " xmlns:p=''", " xmlns:xmlns='u'", " xmlns:xml='u'", " xmlns:xml='" + xmlSpace + "'", " xmlns:q='" + xmlSpace + "'", " xmlns='" + xmlSpace + "'", " xmlns='" + xmlnsSpace + "'", " xmlns:p='" + xmlnsSpace + "'", " xml:x=''", " p:xmlns=''", " xmlns:x='u'", " p:p:p=''", " y=''"}
	checkAll(t, "<a", parts, 3, "/>")
	checkAll(t, "<p:a", parts, 3, "></p:a>")
	checkAll(t, "<a xmlns:p='u' xmlns='w'>t<b", parts, 3, "><b/></b><q:b/></a>")
	checkAll(t, "<xmlns:a", parts, 2, "/>")
	checkAll(t, "<xml:a", parts, 2, "/>")
	checkAll(t, "<a xmlns:q='u' q:x=''", parts, 3, "/>")
}

// P6.1, P6.2: name spaces come and go with their elements.
func TestAllScopes(t *testing.T) {
	parts := []string{"<a>", "<a xmlns='u'>", "<a xmlns=''>", "<p:a>", "<p:a xmlns:p='u'>", "<a xmlns:p='v' p:x=''>", "<a p:x=''/>", "<p:a xmlns:p='w'/>", "</a>", "</p:a>", "</b>", "t"}
	checkAll(t, "", parts, 4, "</a></a>")
	checkAll(t, "<a xmlns:p='o'>", parts, 4, "</p:a></a>")
}

// P6.1, P6.2, P6.3: all short rows of what stands within an element.
func TestAllContents(t *testing.T) {
	parts := []string{"a", "]", "]]", ">", "]]>", "&", "&lt;", "&#93;", "&gt;", "<![CDATA[", "<![CDATA[]]>", "<![CDATA[a]]>", "<!-- -->", "<!--", "-->", "<?p ?>", "<b/>", "<b>", "</b>", "</a>", "</a >", "<", "\r", "\n", "\x00", "<!DOCTYPE"}
	checkAll(t, "<a>", parts, 3, "</a>")
	checkAll(t, "<a>", parts, 3, "")
}

// P6.1: all short rows of what comments, Cdatas and instructions are made of.
func TestAllBrackets(t *testing.T) {
	checkAll(t, "<a><!", append(signs("-[>a<"), "CDATA", "DOCTYPE", "doctype", "--", "CDA", "]]"), 4, "</a>")
	checkAll(t, "<!", append(signs("-[>a< "), "CDATA", "DOCTYPE", "DOC"), 4, "<a/>")
	checkAll(t, "<!--", signs("->a<&\r!"), 5, "<a/>")
	checkAll(t, "<a><![CDATA[", signs("]>a<&\r"), 5, "</a>")
	checkAll(t, "<?", append(signs("?>a: <-1é"), "xml", "XmL"), 4, "<a/>")
	checkAll(t, "<a><?", append(signs("?>a: <-1é"), "xml", "XmL"), 4, "</a>")
	checkAll(t, "<a></", append(signs("a:> \t/b<&1é"), "a:b"), 4, "")
	checkAll(t, "<a:b xmlns:a='u'></", append(signs("a:> \t/b<&1é"), "a:b"), 4, "")
}

// P6.1, P6.2: all short rows of what references are made of.
func TestAllReferences(t *testing.T) {
	parts := append(signs("#xX;09aFg<\"' &"), "amp", "am", "lt", "gt", "quot", "apos", "110000", "10FFFF", "D800", "FFFE", "é", "\x00")
	checkAll(t, "<a>&", parts, 3, "</a>")
	checkAll(t, "<a>&#", parts, 3, ";</a>")
	checkAll(t, "<a>b&#x", parts, 3, ";c</a>")
	checkAll(t, "<a x='&", parts, 3, ";'/>")
	checkAll(t, "&", parts, 1, ";<a/>")
}

// P6.1: all short rows of what a declaration is made of.
func TestAllDeclarations(t *testing.T) {
	parts := append(signs(" \r=\"'?>&<"), "version", "encoding", "standalone", "'1.0'", "\"1.0\"", "'UTF-8'", "yes", "no", "1.1", "xml", "é")
	checkAll(t, "<?xml", parts, 4, "<a/>")
	checkAll(t, "<?xml version='1.0'", parts, 4, "?><a/>")
	checkAll(t, "<?xml version='1.0' encoding", parts, 3, "?><a/>")
	checkAll(t, "\ufeff<?xml version=\"1.0\" standalone", parts, 4, "?><a/>")
	checkAll(t, "<?xml version='1.0' encoding='utf-8' standalone=", append(parts, "y", "e", "s", "n", "o"), 3, "?><a/>")
	checkAll(t, "<?xml version='1.0' encoding='", append(signs("utf-8UTF' "), "latin-1", "&#85;", "&x;", "<", "\xff", "\""), 4, "?><a/>")
}

// P6.1, P6.2, P6.3: each character in each place where characters stand, with something behind it and with nothing.
func TestAllCharacters(t *testing.T) {
	t.Parallel()
	var all []string
	for c := range rune(0x300) {
		all = append(all, string(c))
	}
	for _, c := range []rune{0x300, 0x36F, 0x370, 0x37E, 0x2028, 0x203F, 0x2190, 0x3000, 0xD7FF, 0xE000, 0xFDD0, 0xFEFF, 0xFFFD, 0xFFFE, 0xFFFF, 0x10000, 0x1FFFE, 0xF0000, 0x10FFFF} {
		all = append(all, string(c))
	}
	for b := range 0x80 {
		all = append(all, string([]byte{byte(0x80 + b)}))
	}
	for _, ahead := range []string{
		"", "<", "<!", "<!-", "<!--", "<!-- -", "<!-- --", "<?", "<?p", "<?p ", "<?p?", "<?p ?", "<?xml", "<?xml ", "<?xml version", "<?xml version=", "<?xml version='", "<?xml version='1.0'", "<?xml version='1.0' ", "<?xml version='1.0' encoding='", "<?xml version='1.0' standalone='", "<?xml version='1.0'?",
		"<a", "<a:", "<a:b", "<a ", "<a x", "<a x:", "<a x ", "<a x=", "<a x='", "<a x=\"1", "<a x=''", "<a/", "<a>", "<a>]", "<a>]]", "<a><", "<a></", "<a></a", "<a></a:", "<a></a ", "<a><!", "<a><![", "<a><![CDATA[", "<a><![CDATA[]", "<a><![CDATA[]]",
		"<a>&", "<a>&a", "<a>&am", "<a>&l", "<a>&lt", "<a>&#", "<a>&#6", "<a>&#x", "<a>&#x4", "<a x='&", "<a x='&quo", "<a x='&#1", "<a x='&#x1", "<a/>", "<a/><", "<a/><!", "<a/><?", "<a>\r", "<a x='\r",
	} {
		for _, c := range all {
			for _, behind := range []string{"", "x", ";</a>", "'/>", "></a>", "--><a/>", "]]></a>", "?><a/>"} {
				check(t, ahead+c+behind)
			}
		}
	}
}

// drawnDocument is a document that may be, made of drawn parts.
func drawnDocument(d *draws) string {
	doc, _ := drawn(d)
	return doc
}

// P6.1, P6.2, P6.3, P6.4, R1: whole documents, and these with something taken out, put in, or put elsewhere.
func TestSpoilt(t *testing.T) {
	t.Parallel()
	d := draws(6)
	for range 1000 {
		doc := drawnDocument(&d)
		check(t, doc)
		for range 12 {
			spoilt := doc
			for range 1 + d.below(2) {
				spoilt = spoil(&d, spoilt)
			}
			check(t, spoilt)
		}
		if t.Failed() {
			return
		}
	}
}

func spoil(d *draws, doc string) string {
	from := d.below(len(doc) + 1)
	to := min(len(doc), from+d.below(4))
	switch d.below(4) {
	case 0:
		return doc[:from] + doc[to:]
	case 1:
		return doc[:from] + d.pick("<", ">", "/", "&", ";", "\"", "'", "=", " ", ":", "a", "]]>", "--", "?>", "<!--", "<![CDATA[", "<b>", "</b>", "<b/>", "\r", "\xff", "\x00", "\ufffe", "é", "xmlns:p='u'", " p:x=''", "<!DOCTYPE", "<?xml ", "&#0;", "&lt;") + doc[to:]
	case 2:
		to = min(len(doc), from+d.below(40))
		return doc[:to] + doc[from:]
	}
	return doc[:from]
}

// P6.1: each beginning of a whole document ends too early, wherever it ends.
func TestPrefixes(t *testing.T) {
	t.Parallel()
	docs := []string{
		"\ufeff<?xml version='1.0' encoding=\"UTF-8\" standalone = 'yes' ?>\r\n<!-- c - d --><?p q?><a:b xmlns:a='u' a:x = \"1&#65;&lt;\r\n\"\t>t]]&gt;<![CDATA[<]]]]><c/><?q?><!----></a:b > <?p?><!-- -->\n",
		"<é ü='ö'>ä</é>",
		strings.Repeat("<a>", 20) + strings.Repeat("</a>", 20),
	}
	d := draws(60)
	for len(docs) < 60 {
		if doc := drawnDocument(&d); len(doc) < 500 {
			docs = append(docs, doc)
		}
	}
	for _, doc := range docs {
		checkPrefixes(t, doc)
	}
}

func checkPrefixes(t *testing.T, doc string) {
	t.Helper()
	whole, _, errno := markup.Tokens([]byte(doc))
	if errno != api.OK {
		t.Fatalf("Tokens(%q): %d", doc, errno)
	}
	for n := range doc {
		check(t, doc[:n])
		_, at, errno := markup.Tokens([]byte(doc[:n]))
		switch {
		case n <= whole[0].At+1:
			if at != n || errno != api.ErrMarkup {
				t.Errorf("Tokens(%q): %d, %d", doc[:n], at, errno)
			}
		case n <= whole[len(whole)-1].At+1:
			if at != n || errno != api.ErrEnd {
				t.Errorf("Tokens(%q): %d, %d", doc[:n], at, errno)
			}
		case errno != api.OK && (at != n || errno != api.ErrEnd):
			t.Errorf("Tokens(%q): %d, %d", doc[:n], at, errno)
		}
	}
}
