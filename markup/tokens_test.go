package markup_test

import (
	"encoding/xml"
	"io"
	"slices"
	"strings"
	"testing"

	"gridiron/api"
	"gridiron/markup"
)

func start(at int, space, local string, attrs ...api.Attr) api.Token {
	return api.Token{Kind: api.TokStart, Space: space, Local: local, Attrs: attrs, At: at}
}

func end(at int, space, local string) api.Token {
	return api.Token{Kind: api.TokEnd, Space: space, Local: local, At: at}
}

func text(at int, said string) api.Token {
	return api.Token{Kind: api.TokText, Text: said, At: at}
}

func attr(space, local, value string) api.Attr {
	return api.Attr{Space: space, Local: local, Value: value}
}

func checkTokens(t *testing.T, doc string, want ...api.Token) {
	t.Helper()
	got, at, errno := markup.Tokens([]byte(doc))
	if !slices.EqualFunc(got, want, alike) || at != 0 || errno != api.OK {
		t.Errorf("Tokens(%q): %v, %d, %d, want %v", doc, got, at, errno, want)
	}
	if got := told(t, doc); !slices.EqualFunc(got, want, alike) {
		t.Errorf("All(%q): %v, want %v", doc, got, want)
	}
}

// P6.2: the chapter's example, beginnings and ends, and places behind a byte order mark and what stands ahead of the element.
func TestTokens(t *testing.T) {
	checkTokens(t, `<a x="1&#65;">b<!-- c -->d</a>`, start(0, "", "a", attr("", "x", "1A")), text(14, "bd"), end(26, "", "a"))
	checkTokens(t, "<a/>", start(0, "", "a"), end(2, "", "a"))
	checkTokens(t, "<a />", start(0, "", "a"), end(3, "", "a"))
	checkTokens(t, "<a></a >", start(0, "", "a"), end(3, "", "a"))
	checkTokens(t, "<a x='' />", start(0, "", "a", attr("", "x", "")), end(8, "", "a"))
	checkTokens(t, "\ufeff<a/>", start(3, "", "a"), end(5, "", "a"))
	checkTokens(t, "\ufeff<?xml version='1.0'?>\r\n<!-- é --><a>é<b/></a> <?p?>", start(37, "", "a"), text(40, "é"), start(42, "", "b"), end(44, "", "b"), end(46, "", "a"))
	checkTokens(t, "<a> <b> </b> </a>", start(0, "", "a"), text(3, " "), start(4, "", "b"), text(7, " "), end(8, "", "b"), text(12, " "), end(13, "", "a"))
	checkTokens(t, "<a><a><a/></a></a>", start(0, "", "a"), start(3, "", "a"), start(6, "", "a"), end(8, "", "a"), end(10, "", "a"), end(14, "", "a"))
	checkTokens(t, "<a y='1' x='2' z='3'/>", start(0, "", "a", attr("", "y", "1"), attr("", "x", "2"), attr("", "z", "3")), end(20, "", "a"))
}

// P6.2: texts, references and Cdatas are one text, at the first one of them, though that be an empty Cdata; nothing is none.
func TestTokensTexts(t *testing.T) {
	for content, want := range map[string]struct {
		at   int
		said string
	}{
		"b": {0, "b"}, "&lt;": {0, "<"}, "<![CDATA[b]]>": {0, "b"}, "&lt;&gt;&amp;&quot;&apos;": {0, "<>&\"'"}, "b&amp;c": {0, "b&c"}, "&amp;lt;": {0, "&lt;"}, "<![CDATA[&lt;<c>]]>": {0, "&lt;<c>"},
		"b<![CDATA[c]]>d": {0, "bcd"}, "<![CDATA[b]]><![CDATA[c]]>": {0, "bc"}, "<![CDATA[]]>b": {0, "b"}, "<![CDATA[]]><!-- -->b": {0, "b"}, "<!-- -->b": {8, "b"}, "<!-- --><![CDATA[]]>b": {8, "b"}, "<?p?>&#98;<?p?>": {5, "b"}, "b<!-- -->c<?p?>d": {0, "bcd"}, "b<!-- -->": {0, "b"}, "<![CDATA[]]><![CDATA[]]>&#9;": {0, "\t"},
		"]]&gt;": {0, "]]>"}, "<![CDATA[]]]]>": {0, "]]"}, "<![CDATA[]]]>": {0, "]"}, "<![CDATA[]]]]><![CDATA[>]]>": {0, "]]>"}, "]]<!-- -->>": {0, "]]>"}, "&#93;]>": {0, "]]>"}, "<![CDATA[<![CDATA[]]>": {0, "<![CDATA["}, "<![CDATA[<!-- -->]]>": {0, "<!-- -->"},
		"&#65;&#x41;&#065;&#x00041;": {0, "AAAA"}, "&#x10FFFF;&#1114111;&#x10ffff;": {0, "\U0010FFFF\U0010FFFF\U0010FFFF"}, "&#" + strings.Repeat("0", 5000) + "65;": {0, "A"}, "&#x" + strings.Repeat("0", 5000) + "41;": {0, "A"}, "&#9;&#10;&#13;&#32;": {0, "\t\n\r "}, "&#xD7FF;&#xE000;&#xFFFD;&#x10000;": {0, "\uD7FF\uE000\uFFFD\U00010000"}, "&#xaBcDe;": {0, "\U000ABCDE"},
		" \t\n": {0, " \t\n"}, "\"'>-?": {0, "\"'>-?"}, "\ufeff": {0, "\ufeff"},
	} {
		doc := "<a>" + content + "</a>"
		checkTokens(t, doc, start(0, "", "a"), text(3+want.at, want.said), end(3+len(content), "", "a"))
		checkTokens(t, "<a><b/>"+content+"<b/></a>", start(0, "", "a"), start(3, "", "b"), end(5, "", "b"), text(7+want.at, want.said), start(7+len(content), "", "b"), end(9+len(content), "", "b"), end(11+len(content), "", "a"))
	}
	for _, content := range []string{"", "<![CDATA[]]>", "<!-- b -->", "<?p b?>", "<![CDATA[]]><!-- --><![CDATA[]]>", "<!----><?p?>"} {
		checkTokens(t, "<a>"+content+"</a>", start(0, "", "a"), end(3+len(content), "", "a"))
		checkTokens(t, "<a>"+content+"<b/>c</a>", start(0, "", "a"), start(3+len(content), "", "b"), end(5+len(content), "", "b"), text(7+len(content), "c"), end(8+len(content), "", "a"))
	}
}

// P6.2: D, D A and D D A in texts, Cdatas, values, and between attributes, with the places of the bytes that came behind them.
func TestTokensLines(t *testing.T) {
	for came, is := range map[string]string{"\r": "\n", "\r\n": "\n", "\n": "\n", "\r\r\n": "\n\n", "\n\r": "\n\n", "\r\r": "\n\n", "\r\n\r\n": "\n\n", "\r\n\n": "\n\n", "\r&#10;": "\n\n", "&#13;\n": "\r\n", "&#13;": "\r", "\r&#13;": "\n\r", "&#13;&#10;": "\r\n"} {
		n := len(came)
		checkTokens(t, "<a>"+came+"</a>", start(0, "", "a"), text(3, is), end(3+n, "", "a"))
		checkTokens(t, "<a>b"+came+"c<b/></a>", start(0, "", "a"), text(3, "b"+is+"c"), start(5+n, "", "b"), end(7+n, "", "b"), end(9+n, "", "a"))
	}
	for came, is := range map[string]string{"\r": "\n", "\r\n": "\n", "\n": "\n", "\r\r\n": "\n\n", "\n\r": "\n\n"} {
		n := len(came)
		blanks := strings.ReplaceAll(is, "\n", " ")
		checkTokens(t, "<a><![CDATA["+came+"]]></a>", start(0, "", "a"), text(3, is), end(15+n, "", "a"))
		checkTokens(t, "<a><!--"+came+"--><b"+came+"x"+came+"="+came+"'"+came+"'"+came+"/></a"+came+">", start(0, "", "a"), start(10+n, "", "b", attr("", "x", blanks)), end(16+6*n, "", "b"), end(18+6*n, "", "a"))
		checkTokens(t, came+"<a/>"+came, start(n, "", "a"), end(n+2, "", "a"))
		wrongs{"<a>" + came + "<b>" + came + "¦</a>": api.ErrEnd, "<a x='" + came + "'" + came + "¦1": api.ErrMarkup, came + "<a/>" + came + "¦x": api.ErrMarkup, "<a>" + came + "¦&x;": api.ErrRefer, "<a" + came + "x=''" + came + "¦x=''/>": api.ErrAttr, "<a>" + came + "¦\x00": api.ErrEncoding, "<a>" + came + "¦": api.ErrEnd, "<?p" + came + "?><a>" + came + "]]¦>": api.ErrMarkup}.check(t)
	}
	// a 13 and the 10 of a reference, or of another text, are two
	checkTokens(t, "<a>\r<!-- -->\n</a>", start(0, "", "a"), text(3, "\n\n"), end(13, "", "a"))
	checkTokens(t, "<a>\r<![CDATA[\n]]></a>", start(0, "", "a"), text(3, "\n\n"), end(17, "", "a"))
}

// P6.2: values have blanks for spaces that stand there themselves, and what references say.
func TestTokensValues(t *testing.T) {
	for value, want := range map[string]string{
		"": "", "1": "1", " ": " ", "\t": " ", "\n": " ", "\r": " ", "\r\n": " ", "\n\r": "  ", "\r\r\n": "  ", "a\t\n b": "a   b", " a ": " a ",
		"&#9;": "\t", "&#10;": "\n", "&#13;": "\r", "&#xD;&#xA;": "\r\n", "&#32;": " ", "\r&#10;": " \n", "&#13;\n": "\r ", "&#x9;\t": "\t ",
		"&lt;&gt;&amp;": "<>&", "&quot;&apos;": "\"'", "&#38;lt;": "&lt;", "&amp;#65;": "&#65;", "a&#66;c": "aBc", "é&#233;": "éé", ">": ">", "]]>": "]]>", "--": "--", "?>": "?>", "/>": "/>", "\u00a0\u0085\u2028": "\u00a0\u0085\u2028", "&#xa0;": "\u00a0", "=": "=",
	} {
		for _, quote := range []string{"'", "\""} {
			doc := "<a x=" + quote + value + quote + "/>"
			checkTokens(t, doc, start(0, "", "a", attr("", "x", want)), end(len(doc)-2, "", "a"))
		}
	}
	checkTokens(t, "<a x='\"' y=\"'\"/>", start(0, "", "a", attr("", "x", "\""), attr("", "y", "'")), end(14, "", "a"))
}

// P6.2: name spaces: none, declared, declared anew within, taken away, declared behind their use, and gone behind their element.
func TestTokensSpaces(t *testing.T) {
	checkTokens(t, "<a xmlns='u' x=''/>", start(0, "u", "a", attr("", "x", "")), end(17, "u", "a"))
	checkTokens(t, "<a xmlns='u'><b xmlns=''><c/></b><d/></a>", start(0, "u", "a"), start(13, "", "b"), start(25, "", "c"), end(27, "", "c"), end(29, "", "b"), start(33, "u", "d"), end(35, "u", "d"), end(37, "u", "a"))
	checkTokens(t, "<p:a xmlns:p='u'><p:b xmlns:p='v'><p:c/></p:b><p:d/></p:a>", start(0, "u", "a"), start(17, "v", "b"), start(34, "v", "c"), end(38, "v", "c"), end(40, "v", "b"), start(46, "u", "d"), end(50, "u", "d"), end(52, "u", "a"))
	checkTokens(t, "<p:a p:x='1' xmlns:p='u'/>", start(0, "u", "a", attr("u", "x", "1")), end(24, "u", "a"))
	checkTokens(t, "<a xmlns='u' xmlns:p='u' p:x='1' x='2'/>", start(0, "u", "a", attr("u", "x", "1"), attr("", "x", "2")), end(38, "u", "a"))
	checkTokens(t, "<xml:a xml:x=''/>", start(0, xmlSpace, "a", attr(xmlSpace, "x", "")), end(15, xmlSpace, "a"))
	checkTokens(t, "<a xmlns:xml='"+xmlSpace+"'><xml:b/></a>", start(0, "", "a"), start(52, xmlSpace, "b"), end(58, xmlSpace, "b"), end(60, "", "a"))
	checkTokens(t, "<a xmlns:p='&#117;\tv'><p:b/></a>", start(0, "", "a"), start(22, "u v", "b"), end(26, "u v", "b"), end(28, "", "a"))
	checkTokens(t, "<p:xmlns xmlns:p='u' p:xmlns='1'/>", start(0, "u", "xmlns", attr("u", "xmlns", "1")), end(32, "u", "xmlns"))
	checkTokens(t, "<xmlns xmlns='u'/>", start(0, "u", "xmlns"), end(16, "u", "xmlns"))
	checkTokens(t, "<a><b xmlns='u'/><c/></a>", start(0, "", "a"), start(3, "u", "b"), end(15, "u", "b"), start(17, "", "c"), end(19, "", "c"), end(21, "", "a"))
	checkTokens(t, "<a xmlns:p='u'><b xmlns:p='v'/><b xmlns:q='w' p:x=''/></a>", start(0, "", "a"), start(15, "", "b"), end(29, "", "b"), start(31, "", "b", attr("u", "x", "")), end(52, "", "b"), end(54, "", "a"))
	// one name space by two prefixes is one
	checkTokens(t, "<p:a xmlns:p='u'><q:a xmlns:q='u'/></p:a>", start(0, "u", "a"), start(17, "u", "a"), end(33, "u", "a"), end(35, "u", "a"))
}

// P6.2: the library's own reader reads drawn documents alike, but for elements with the name xmlns, to which it gives no name space.
func TestTokensLibrary(t *testing.T) {
	d := draws(26)
	for range 1500 {
		n := drawnNode(&d, 4)
		doc, _ := laid(&d, n, true)
		if strings.Contains(doc, "<xmlns") {
			continue
		}
		got, _, errno := markup.Tokens([]byte(doc))
		want := libraryTokens(t, doc)
		if errno != api.OK || !markup.Same(got, want) {
			t.Fatalf("Tokens(%q): %v, %d, want %v", doc, got, errno, want)
		}
	}
}

func libraryTokens(t *testing.T, doc string) []api.Token {
	t.Helper()
	var all []api.Token
	space := func(n xml.Name) string {
		if n.Space == "xml" {
			return xmlSpace
		}
		return n.Space
	}
	for d := xml.NewDecoder(strings.NewReader(doc)); ; {
		token, err := d.Token()
		if err == io.EOF {
			return all
		}
		if err != nil {
			t.Fatalf("%q: %v", doc, err)
		}
		switch x := token.(type) {
		case xml.StartElement:
			next := start(0, space(x.Name), x.Name.Local)
			for _, a := range x.Attr {
				if a.Name.Space != "xmlns" && a.Name != (xml.Name{Local: "xmlns"}) {
					next.Attrs = append(next.Attrs, attr(space(a.Name), a.Name.Local, a.Value))
				}
			}
			all = append(all, next)
		case xml.EndElement:
			all = append(all, end(0, space(x.Name), x.Name.Local))
		case xml.CharData:
			all = append(all, text(0, string(x)))
		}
	}
}

// P6.4: what is told of a document that is right is a tree, whatever was taken for its parts.
func TestWellFormed(t *testing.T) {
	t.Parallel()
	d := draws(64)
	right := 0
	for range 60000 {
		doc := ""
		for range 1 + d.below(9) {
			doc += d.pick("<a>", "<b>", "</a>", "</b>", "<a/>", "<a xmlns='u'>", "<p:a xmlns:p='u'>", "</p:a>", "<a x='' y=''/>", "<a x='' x=''/>", "b", "<![CDATA[]]>", "<![CDATA[c]]>", "<!-- -->", "&lt;")
		}
		for _, doc := range []string{doc, "<a>" + doc + "</a>"} {
			got, _, errno := markup.Tokens([]byte(doc))
			if errno == api.OK {
				right++
				checkTree(t, doc, got)
			}
			if _, _, want := modelTokens(doc); errno != want {
				t.Errorf("Tokens(%q): %d, want %d", doc, errno, want)
			}
		}
	}
	if right < 1000 {
		t.Error("only", right, "documents were right")
	}
}
