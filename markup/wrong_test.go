package markup_test

import (
	"strings"
	"testing"

	"gridiron/api"
	"gridiron/markup"
)

// wrongs are documents in which a sign ¦ stands ahead of the byte at which the first thing that is wrong begins; the sign is none of the document's.
type wrongs map[string]api.Errno

func (w wrongs) check(t *testing.T) {
	t.Helper()
	for marked, want := range w {
		doc := strings.Replace(marked, "¦", "", 1)
		tokens, at, errno := markup.Tokens([]byte(doc))
		if len(tokens) != 0 || at != strings.Index(marked, "¦") || errno != want {
			t.Errorf("Tokens(%q): %v, %d, %d, want %q, %d", doc, tokens, at, errno, marked, want)
		}
	}
}

// checkRight asks whether nothing is wrong with documents.
func checkRight(t *testing.T, docs ...string) {
	t.Helper()
	for _, doc := range docs {
		if tokens, at, errno := markup.Tokens([]byte(doc)); len(tokens) < 2 || at != 0 || errno != api.OK {
			t.Errorf("Tokens(%q): %v, %d, %d", doc, tokens, at, errno)
		}
	}
}

// P6.1: the chapter's examples.
func TestWrongExamples(t *testing.T) {
	wrongs{
		"<a><b>¦</a>": api.ErrEnd, "<a¦": api.ErrEnd, "¦": api.ErrMarkup, "<¦p:a/>": api.ErrPrefix, `<a x="" ¦x=""/>`: api.ErrAttr, "¦<!DOCTYPE a><a/>": api.ErrDoctype,
		`<a xmlns:p="u" xmlns:q="u" p:x="" ¦q:x=""/>`: api.ErrAttr,
	}.check(t)
}

// P6.1: documents that end too early, with and without an element.
func TestWrongEarly(t *testing.T) {
	wrongs{
		"\ufeff¦": api.ErrMarkup, " ¦": api.ErrMarkup, " \r\n\t¦": api.ErrMarkup, "<¦": api.ErrMarkup, " <¦": api.ErrMarkup, "<!¦": api.ErrMarkup, "<!-¦": api.ErrMarkup, "<!--¦": api.ErrMarkup, "<!-- --¦": api.ErrMarkup, "<!-- -->¦": api.ErrMarkup,
		"<?¦": api.ErrMarkup, "<?p¦": api.ErrMarkup, "<?p ?¦": api.ErrMarkup, "<?p?>¦": api.ErrMarkup, "<?xml¦": api.ErrMarkup, "<?xml ¦": api.ErrMarkup, "<?xml version¦": api.ErrMarkup, "<?xml version='1.0¦": api.ErrMarkup, "<?xml version='1.0'¦": api.ErrMarkup, "<?xml version='1.0' encoding='latin¦": api.ErrMarkup, "<?xml version='1.0'?>¦": api.ErrMarkup,
		"<a ¦": api.ErrEnd, "<a:¦": api.ErrEnd, "<p:a¦": api.ErrEnd, "<a x¦": api.ErrEnd, "<a x ¦": api.ErrEnd, "<a x=¦": api.ErrEnd, "<a x= ¦": api.ErrEnd, "<a x='¦": api.ErrEnd, "<a x='1¦": api.ErrEnd, "<a x='1'¦": api.ErrEnd, "<a x='1' x='1'¦": api.ErrEnd, "<a/¦": api.ErrEnd, "<p:a/¦": api.ErrEnd, "<a>¦": api.ErrEnd, "<a>b¦": api.ErrEnd, "<a>]]¦": api.ErrEnd,
		"<a><¦": api.ErrEnd, "<a></¦": api.ErrEnd, "<a></a¦": api.ErrEnd, "<a></a ¦": api.ErrEnd, "<a></b¦": api.ErrEnd, "<a></b:¦": api.ErrEnd, "<a><!¦": api.ErrEnd, "<a><!--¦": api.ErrEnd, "<a><!-- -¦": api.ErrEnd, "<a><![¦": api.ErrEnd, "<a><![CDATA¦": api.ErrEnd, "<a><![CDATA[¦": api.ErrEnd, "<a><![CDATA[]]¦": api.ErrEnd, "<a><?¦": api.ErrEnd, "<a><?xml¦": api.ErrEnd, "<a><?p ¦": api.ErrEnd,
		"<a>&¦": api.ErrEnd, "<a>&a¦": api.ErrEnd, "<a>&amp¦": api.ErrEnd, "<a>&#¦": api.ErrEnd, "<a>&#x¦": api.ErrEnd, "<a>&#x110000¦": api.ErrEnd, "<a>&#0¦": api.ErrEnd, "<a x='&¦": api.ErrEnd, "<a x='&l¦": api.ErrEnd, "<a><b></b>¦": api.ErrEnd, "<a/><¦": api.ErrEnd, "<a/> <!¦": api.ErrEnd, "<a/><!-- ¦": api.ErrEnd, "<a/><?p¦": api.ErrEnd,
	}.check(t)
	checkRight(t, "<a/>", "<a/> ", "<a></a><!-- --><?p?>\r\n")
	if l, at, errno := markup.Tokens(nil); len(l) != 0 || at != 0 || errno != api.ErrMarkup {
		t.Error("Tokens of nil:", l, at, errno)
	}
}

// P6.1: declarations with each of their parts, one lacking, in another order, with either quote, of another version and encoding.
func TestWrongDeclaration(t *testing.T) {
	wrongs{
		"<?¦xml?><a/>": api.ErrMarkup, "<?xml ¦?><a/>": api.ErrMarkup, "<?xml ¦encoding='UTF-8'?><a/>": api.ErrMarkup, "<?xml ¦standalone='yes'?><a/>": api.ErrMarkup, "<?xml ¦Version='1.0'?><a/>": api.ErrMarkup, "<?xml ver¦Sion='1.0'?><a/>": api.ErrMarkup,
		"<?xml version ¦'1.0'?><a/>": api.ErrMarkup, "<?xml version=¦1.0?><a/>": api.ErrMarkup, "<?xml version='1.¦1'?><a/>": api.ErrMarkup, "<?xml version='¦2.0'?><a/>": api.ErrMarkup, "<?xml version='¦ 1.0'?><a/>": api.ErrMarkup, "<?xml version='1.0¦\"?><a/>": api.ErrMarkup, "<?xml version='1.0¦0'?><a/>": api.ErrMarkup, "<?xml version=\"1.0¦'?><a/>": api.ErrMarkup, "<?xml version='¦'?><a/>": api.ErrMarkup, "<?xml version='¦&#49;.0'?><a/>": api.ErrMarkup, "<?xml version=¦?><a/>": api.ErrMarkup,
		"<?xml version='1.0'¦encoding='UTF-8'?><a/>": api.ErrMarkup, "<?xml version='1.0' encoding='UTF-8'¦standalone='no'?><a/>": api.ErrMarkup, "<?xml version='1.0' standalone='no' ¦encoding='UTF-8'?><a/>": api.ErrMarkup, "<?xml version='1.0' ¦version='1.0'?><a/>": api.ErrMarkup, "<?xml version='1.0' encoding='UTF-8' ¦encoding='UTF-8'?><a/>": api.ErrMarkup, "<?xml version='1.0' standalone='no' ¦standalone='no'?><a/>": api.ErrMarkup, "<?xml version='1.0' ¦x='1'?><a/>": api.ErrMarkup, "<?xml version='1.0' e¦x='1'?><a/>": api.ErrMarkup,
		"<?xml version='1.0' encoding¦?><a/>": api.ErrMarkup, "<?xml version='1.0' encoding=¦UTF-8?><a/>": api.ErrMarkup, "<?xml version='1.0' encoding='U¦<TF-8'?><a/>": api.ErrMarkup, "<?xml version='1.0' encoding='UTF-8\" ¦<a/>": api.ErrMarkup,
		"<?xml version='1.0' standalone='¦true'?><a/>": api.ErrMarkup, "<?xml version='1.0' standalone='¦'?><a/>": api.ErrMarkup, "<?xml version='1.0' standalone='¦Yes'?><a/>": api.ErrMarkup, "<?xml version='1.0' standalone='ye¦'?><a/>": api.ErrMarkup, "<?xml version='1.0' standalone='yes¦ '?><a/>": api.ErrMarkup, "<?xml version='1.0' standalone='n¦es'?><a/>": api.ErrMarkup, "<?xml version='1.0' standalone='no¦\"?><a/>": api.ErrMarkup, "<?xml version='1.0' standalone=¦yes?><a/>": api.ErrMarkup, "<?xml version='1.0' standalone¦?><a/>": api.ErrMarkup,
		"<?xml version='1.0'¦><a/>": api.ErrMarkup, "<?xml version='1.0'?¦ ><a/>": api.ErrMarkup, "<?xml version='1.0'¦/><a/>": api.ErrMarkup, "<?xml version='1.0'?>¦x<a/>": api.ErrMarkup,
		"<?xml version='1.0' encoding='¦latin-1'?><a/>": api.ErrEncoding, "<?xml version=\"1.0\" encoding=\"¦ISO-8859-1\"?><a>\xe9</a>": api.ErrEncoding, "<?xml version='1.0' encoding='¦'?><a/>": api.ErrEncoding, "<?xml version='1.0' encoding='¦UTF8'?><a/>": api.ErrEncoding, "<?xml version='1.0' encoding='¦UTF-16'?><a/>": api.ErrEncoding, "<?xml version='1.0' encoding = \r\n'¦ UTF-8'?><a/>": api.ErrEncoding, "<?xml version='1.0' encoding='¦UTF-8 '?><a/>": api.ErrEncoding, "\ufeff<?xml version='1.0' encoding='¦x'<": api.ErrEncoding,
		"<?xml version='1.0' encoding='¦x' standalone='maybe'?><a/>": api.ErrEncoding, "<?xml version='1.0' encoding='x¦&y;'?><a/>": api.ErrRefer, "<?xml version='1.0' encoding='¦&#0;'?><a/>": api.ErrRefer, "<?xml version='1.0' encoding='x¦\xff'?><a/>": api.ErrEncoding, "<?xml¦\xff version='1.0'?><a/>": api.ErrEncoding, "<?xml ¦\x00": api.ErrEncoding,
	}.check(t)
	checkRight(t, "<?xml version='1.0'?><a/>", "<?xml version=\"1.0\"?><a/>", "<?xml version='1.0' encoding='UTF-8'?><a/>", "<?xml version='1.0' encoding=\"utf-8\"?><a/>", "<?xml version='1.0' encoding='uTf-8'?><a/>", "<?xml version='1.0' standalone='yes'?><a/>", "<?xml version='1.0' standalone=\"no\"?><a/>",
		"<?xml\tversion\r=\n'1.0'\r\nencoding =\t\"Utf-8\"  standalone= \"yes\"\r?><a/>", "<?xml version='1.0' ?><a/>", "<?xml version='1.0' encoding='UTF-8' ?><a/>", "\ufeff<?xml version='1.0'?><a/>", "<?xml version='1.0' encoding='&#85;TF&#x2d;8'?><a/>", "<?xml version='1.0'?> <!----><?p?><a/>")
}

// P6.1: <?xml as an instruction, in other letters, and as the beginning of a longer name.
func TestWrongXML(t *testing.T) {
	wrongs{
		" <?¦xml version='1.0'?><a/>": api.ErrMarkup, "<!----><?¦xml version='1.0'?><a/>": api.ErrMarkup, "<?xml version='1.0'?><?¦xml version='1.0'?><a/>": api.ErrMarkup, "<a><?¦xml version='1.0'?></a>": api.ErrMarkup, "<a/><?¦xml version='1.0'?>": api.ErrMarkup, "<a>t<?¦xml?></a>": api.ErrMarkup,
		"<?¦XML version='1.0'?><a/>": api.ErrMarkup, "<?¦Xml?><a/>": api.ErrMarkup, "<a><?¦xMl ?></a>": api.ErrMarkup, "<a><?xmL¦": api.ErrEnd, "<?¦xml<a/>": api.ErrMarkup, "<?¦xml/><a/>": api.ErrMarkup, "\ufeff <?¦xml ?><a/>": api.ErrMarkup, "<?¦xml\u00a0version='1.0'?><a/>": api.ErrMarkup,
	}.check(t)
	checkRight(t, "<?xmlx?><a/>", "<?xml-stylesheet href='x'?><a/>", "<?xml1 ?><a/>", "<?xm?><a/>", "<?XML.?><a/>", "<a><?xmlé?></a>", "<?x?><a/>", "<?\u017fml?><a/>", "<a/><?xmls?>")
}

// P6.1: names of elements, attributes and ends, with colons and characters where none may be.
func TestWrongNames(t *testing.T) {
	wrongs{
		"<a:b¦:c/>": api.ErrMarkup, "<¦:a/>": api.ErrMarkup, "<a:¦/>": api.ErrMarkup, "<a:¦ />": api.ErrMarkup, "<a:¦:b/>": api.ErrMarkup, "<a:¦1/>": api.ErrMarkup, "<¦1/>": api.ErrMarkup, "<¦-a/>": api.ErrMarkup, "<¦ a/>": api.ErrMarkup, "<¦/>": api.ErrMarkup, "<¦>": api.ErrMarkup, "<¦<": api.ErrMarkup, "<¦&": api.ErrMarkup, "<a¦×/>": api.ErrMarkup, "<¦·/>": api.ErrMarkup, "<a¦;/>": api.ErrMarkup, "<a:¦·b/>": api.ErrMarkup,
		"<a x:y¦:z=''/>": api.ErrMarkup, "<a ¦:x=''/>": api.ErrMarkup, "<a x:¦=''/>": api.ErrMarkup, "<a ¦1=''/>": api.ErrMarkup, "<a x¦\"=''/>": api.ErrMarkup, "<a x:¦-y=''/>": api.ErrMarkup, "<a x¦<": api.ErrMarkup,
		"<a></¦:a>": api.ErrMarkup, "<a></¦ a>": api.ErrMarkup, "<a></¦>": api.ErrMarkup, "<a></¦1>": api.ErrMarkup, "<a></a:¦>": api.ErrMarkup, "<a></b:¦1>": api.ErrMarkup, "<a xmlns:p='u'><p:a></p:a¦:b></p:a></a>": api.ErrMarkup, "<a></a¦/>": api.ErrMarkup, "<a></a ¦x=''>": api.ErrMarkup, "<a></a¦<": api.ErrMarkup, "<a></¦/a>": api.ErrMarkup,
		"<?¦1?><a/>": api.ErrMarkup, "<?¦ p?><a/>": api.ErrMarkup, "<?¦?><a/>": api.ErrMarkup, "<?p¦:q?><a/>": api.ErrMarkup, "<?p¦:?><a/>": api.ErrMarkup, "<?¦:p?><a/>": api.ErrMarkup, "<a><?p¦:q r?></a>": api.ErrMarkup, "<?p¦><a/>": api.ErrMarkup, "<?p¦=''?><a/>": api.ErrMarkup, "<?p?¦q?><a/>": api.ErrMarkup, "<?p?¦?><a/>": api.ErrMarkup, "<?p?¦ ><a/>": api.ErrMarkup,
	}.check(t)
	checkRight(t, "<_/>", "<é.-1/>", "<a·/>", "<a:b xmlns:a='u'/>", "<a x.y='' é=''/>", "<?_?><a/>", "<?p \r\n?><a/>", "<?p ??><a/>", "<?p ?q?r?><a/>", "<?p -- <a> & ]]> \"?><a/>", "<\U00010000/>")
}

// P6.1: ends that are not those of the element that is open; their prefixes are not asked, but their letters.
func TestWrongEnds(t *testing.T) {
	wrongs{
		"<a>¦</b>": api.ErrEnd, "<a>¦</A>": api.ErrEnd, "<a>¦</ab>": api.ErrEnd, "<ab>¦</a>": api.ErrEnd, "<a>x¦</b >": api.ErrEnd, "<a>¦</b<": api.ErrEnd, "<a>¦</b/": api.ErrEnd, "<a><b>¦</a></b>": api.ErrEnd, "<a><b/>¦</b>": api.ErrEnd, "<a>¦</p:a>": api.ErrEnd, "<p:a xmlns:p='u'>¦</a>": api.ErrEnd,
		"<p:a xmlns:p='u' xmlns:q='u'>¦</q:a>": api.ErrEnd, "<p:a xmlns:p='u'><q:b xmlns:q='u'>¦</p:b></p:a>": api.ErrEnd, "<a>¦</b:c:d>": api.ErrEnd, "<é>¦</e\u0301>": api.ErrEnd,
		"<¦/a>": api.ErrMarkup, "<a/><¦/a>": api.ErrMarkup, "<a></a><¦/a>": api.ErrMarkup, "<!----><¦/>": api.ErrMarkup,
	}.check(t)
	checkRight(t, "<a></a >", "<a></a\r\n\t>", "<p:a xmlns:p='u'></p:a >", "<a><b/></a>", "<a><a></a></a>")
}

// P6.1: what stands outside of the element, and what can't begin with <! .
func TestWrongOutside(t *testing.T) {
	wrongs{
		"¦x<a/>": api.ErrMarkup, " ¦x": api.ErrMarkup, "<a/>¦x": api.ErrMarkup, "<a/> ¦&lt;": api.ErrMarkup, "¦&lt;<a/>": api.ErrMarkup, "<a/>¦&x": api.ErrMarkup, "<a/>¦]": api.ErrMarkup, "<a/>¦>": api.ErrMarkup, "<a/><¦b/>": api.ErrMarkup, "<a></a> <¦a></a>": api.ErrMarkup, "<a/><¦1": api.ErrMarkup, "<a/><¦p:b/>": api.ErrMarkup,
		"<!¦[CDATA[]]><a/>": api.ErrMarkup, "<a/><!¦[CDATA[x]]>": api.ErrMarkup, "\ufeff¦\ufeff<a/>": api.ErrMarkup, " ¦\ufeff<a/>": api.ErrMarkup, "<a/>¦\ufeff": api.ErrMarkup, "¦\u00a0<a/>": api.ErrMarkup, "<a/>¦\u0085": api.ErrMarkup,
		"<!¦x": api.ErrMarkup, "<a><!¦x": api.ErrMarkup, "<a/><!¦x": api.ErrMarkup, "<!¦ELEMENT a><a/>": api.ErrMarkup, "<!-¦x--><a/>": api.ErrMarkup, "<a><!-¦></a>": api.ErrMarkup, "<a><![¦x": api.ErrMarkup, "<a><![CD¦a": api.ErrMarkup, "<a><![CDATA¦ [": api.ErrMarkup, "<a><![¦cdata[]]></a>": api.ErrMarkup, "<!¦>": api.ErrMarkup, "<!¦é>": api.ErrMarkup,
		" ¦<!DOCTYPE": api.ErrDoctype, "<a>¦<!DOCTYPE a></a>": api.ErrDoctype, "<a/>¦<!DOCTYPE a>": api.ErrDoctype, "<?xml version='1.0'?>\r\n¦<!DOCTYPE a [<!ENTITY x 'y'>]><a>&x;</a>": api.ErrDoctype, "¦<!DOCTYPEx": api.ErrDoctype, "<!¦doctype a><a/>": api.ErrMarkup, "<!¦DOCTYP": api.ErrMarkup, "<!¦DOCTYPe a><a/>": api.ErrMarkup, "<a><!¦DOC\xff": api.ErrMarkup,
	}.check(t)
	checkRight(t, "<!--<!DOCTYPE a>--><a/>", "<a><![CDATA[<!DOCTYPE a>]]></a>", "<?p <!DOCTYPE a>?><a/>", "<a x='!DOCTYPE'/>")
}

// P6.1: comments with -- in them.
func TestWrongComments(t *testing.T) {
	wrongs{
		"<!-- a --¦ b --><a/>": api.ErrMarkup, "<!-- a --¦-><a/>": api.ErrMarkup, "<!----¦-><a/>": api.ErrMarkup, "<!----¦--><a/>": api.ErrMarkup, "<a><!--a--¦é></a>": api.ErrMarkup, "<a/><!-- --¦ >": api.ErrMarkup, "<!--->¦": api.ErrMarkup, "<!-->¦": api.ErrMarkup, "<!-- --¦ >": api.ErrMarkup,
	}.check(t)
	checkRight(t, "<!----><a/>", "<!-- - --><a/>", "<!--->--><a/>", "<!-->--><a/>", "<!-- -> --><a/>", "<a><!--]]>--></a>", "<a><!--&x;<b>--></a>", "<!--\r--><a/>")
}

// P6.1: what stands in a beginning, but for its name spaces.
func TestWrongBeginnings(t *testing.T) {
	wrongs{
		"<a x=''¦y=''/>": api.ErrMarkup, "<a x='¦<'/>": api.ErrMarkup, "<a x=\"'¦<": api.ErrMarkup, "<a x¦/>": api.ErrMarkup, "<a x¦>": api.ErrMarkup, "<a x ¦y=''/>": api.ErrMarkup, "<a x=¦/>": api.ErrMarkup, "<a x=¦1/>": api.ErrMarkup, "<a x=¦=''/>": api.ErrMarkup, "<a ¦=''/>": api.ErrMarkup, "<a ¦'x'/>": api.ErrMarkup, "<a¦='x'/>": api.ErrMarkup, "<a ¦&lt;/>": api.ErrMarkup, "<a¦<b/>": api.ErrMarkup, "<a ¦<b/>": api.ErrMarkup,
		"<a/¦ >": api.ErrMarkup, "<a/¦/>": api.ErrMarkup, "<a /¦x": api.ErrMarkup, "<a x=''/¦é>": api.ErrMarkup, "<a x='>¦<": api.ErrMarkup, "<a x='1\">¦</a>": api.ErrMarkup, "<a¦\u00a0/>": api.ErrMarkup,
	}.check(t)
	checkRight(t, "<a x='>'/>", "<a x=']]>'/>", "<a x='\"'/>", "<a x=\"'\"/>", "<a x='/'/>", "<a\tx\r=\n''\r\ny=''\t/>", "<a x='--?>&gt;'/>")
}

// P6.1: references in texts and values: none of the five, numbers of no character, no digits, cut off.
func TestWrongReferences(t *testing.T) {
	for _, refer := range []string{
		"&x;", "& ", "&;", "&&", "&lt ", "&lt<", "&LT;", "&Lt;", "&amp:", "&ampx;", "&am;", "&apo;", "&aposs;", "&quo;", "&quott;", "&nbsp;", "&é;", "&a\r", "&lt\n;",
		"&#;", "&#x;", "&#X41;", "&#xg;", "&#a;", "&#-1;", "&#+1;", "&# 1;", "&#1 ;", "&#65 ", "&#x41 ", "&#65é;", "&#x;;", "&#xx41;", "&#x4G;", "&#65.0;", "&#٣;",
		"&#0;", "&#00;", "&#x0;", "&#1;", "&#8;", "&#11;", "&#12;", "&#14;", "&#31;", "&#x1F;", "&#xD800;", "&#xDFFF;", "&#55296;", "&#xFFFE;", "&#xFFFF;", "&#65535;", "&#1114112;", "&#x110000;", "&#4294967361;", "&#x100000041;", "&#18446744073709551681;", "&#x10000000000000041;", "&#" + strings.Repeat("9", 400) + ";", "&#x" + strings.Repeat("F", 400) + ";",
	} {
		wrongs{
			"<a>¦" + refer + "</a>": api.ErrRefer, "<a>é\r\n¦" + refer + "&x;</a>": api.ErrRefer, "<a x='¦" + refer + "'/>": api.ErrRefer, "<a x='\r\né¦" + refer + "\x00": api.ErrRefer, "<a><b/><![CDATA[&x;]]>&lt;¦" + refer: api.ErrRefer,
			"<a/>¦" + refer: api.ErrMarkup, "¦" + refer + "<a/>": api.ErrMarkup,
		}.check(t)
	}
}

// P6.1: ]]> stands in no text.
func TestWrongBrackets(t *testing.T) {
	wrongs{
		"<a>]]¦></a>": api.ErrMarkup, "<a>]]]¦></a>": api.ErrMarkup, "<a>x]]¦>": api.ErrMarkup, "<a><![CDATA[x]]>]]¦></a>": api.ErrMarkup, "<a><![CDATA[]]]]>]]¦></a>": api.ErrMarkup, "<a>]]&gt;]]¦></a>": api.ErrMarkup, "<a>\r\né]]¦>&x;": api.ErrMarkup, "<a>]]¦>\x00": api.ErrMarkup, "<a><b/>]]¦></a>": api.ErrMarkup, "<a>]] >]]¦></a>": api.ErrMarkup,
	}.check(t)
	checkRight(t, "<a>]]&gt;</a>", "<a>]&#93;></a>", "<a>&#93;]></a>", "<a>]]<!-- -->></a>", "<a>]<!-- -->]></a>", "<a>]]<?p?>></a>", "<a>]<![CDATA[]]>]></a>", "<a>]]<![CDATA[]]>></a>", "<a>]]<![CDATA[>]]></a>", "<a>]] ></a>", "<a>]></a>", "<a>></a>", "<a>]]<b/>></a>", "<a x=']]>'/>", "<a><!--]]>--></a>", "<a><?p ]]>?></a>", "<a><![CDATA[]]]]></a>", "<a><![CDATA[]]]></a>", "<a><![CDATA[]]><![CDATA[>]]></a>")
}

// P6.1: bytes that are no UTF-8, and characters that are none of XML's, with nothing wrong ahead of them, and with something.
func TestWrongEncoding(t *testing.T) {
	for _, c := range []string{"\x00", "\x01", "\x0b", "\x1f", "\x80", "\xbf", "\xc3", "\xc3<", "\xff", "\xfe\xff", "\xc0\x80", "\xed\xa0\x80", "\xe2\x82", "\xf4\x90\x80\x80", "\xf0\x9f\x98<", "\ufffe", "\uffff"} {
		for _, ahead := range []string{
			"", "\ufeff", " ", "<", "<!", "<!-", "<!-- ", "<!-- -", "<!-- --", "<?", "<?p", "<?p ", "<?p ?", "<?xml", "<?xml ", "<?xml version='1.0'", "<?xml version='1.0' encoding='", "<?xml version='1.0' encoding='x",
			"<a", "<a:", "<a:b", "<a ", "<a x", "<a x ", "<a x=", "<a x='", "<a x='é", "<a x=''", "<a/", "<a>", "<a>é", "<a>]]", "<a><", "<a></", "<a></a", "<a></b", "<a></a ", "<a>&", "<a>&a", "<a>&lt", "<a>&#", "<a>&#x", "<a>&#1", "<a>&#xFFFFFFFFFFFF", "<a x='&", "<a x='&#0", "<a><!", "<a><![", "<a><![CDA", "<a><![CDATA[", "<a><![CDATA[]]", "<a><?xml", "<a>\r", "<a x='\r",
			"<p:a", "<a x='' x=''", "<a xmlns:p=''", "<a p:x='' ", "<p:a/", "<a/>", "<a></a> ", "<a/><", "<a/><!--", "<a/><?p?>",
		} {
			wrongs{ahead + "¦" + c: api.ErrEncoding, ahead + "¦" + c + "<a/>": api.ErrEncoding, ahead + "¦" + c + "&x;</b><!DOCTYPE": api.ErrEncoding}.check(t)
		}
		wrongs{
			"<a>¦</b>" + c: api.ErrEnd, "<a>¦&x" + c: api.ErrRefer, "<a>¦&lt" + " " + c: api.ErrRefer, "<a>]]¦>" + c: api.ErrMarkup, "<a/>¦x" + c: api.ErrMarkup, "<¦p:a/>" + c: api.ErrPrefix, "<a x='' ¦x=''>" + c: api.ErrAttr, "¦<!DOCTYPE" + c: api.ErrDoctype, "<!-- --¦-" + c: api.ErrMarkup, "<a><?¦xml " + c: api.ErrMarkup, "<?xml version='1.0' encoding='¦x'" + c: api.ErrEncoding, "<a>¦</b " + c: api.ErrEnd, "<a/><¦b" + c: api.ErrMarkup,
		}.check(t)
	}
	checkRight(t, "<a>\x7f\u0080\ufffd\U0010ffff\ufeff\t\n\r</a>", "<a x='\ufffd'/>", "<\ufffd/>", "<!--\ufffd\u0085--><a/>")
}

// P6.1: which prefixes have a name space, and which declarations may be.
func TestWrongPrefixes(t *testing.T) {
	wrongs{
		"<a ¦p:x=''/>": api.ErrPrefix, "<a><¦p:b/></a>": api.ErrPrefix, "<a>t<b ¦p:x=''/></a>": api.ErrPrefix, "<a><b xmlns:p='u'/><¦p:c/></a>": api.ErrPrefix, "<a><b xmlns:p='u'><p:c/></b><d ¦p:x=''/></a>": api.ErrPrefix, "<a><b xmlns:p='u'></b><¦p:c/></a>": api.ErrPrefix, "<a xmlns='u'><¦p:b/></a>": api.ErrPrefix, "<¦p:a xmlns:q='u'/>": api.ErrPrefix, "<¦P:a xmlns:p='u'/>": api.ErrPrefix,
		"<¦xmlns:a/>": api.ErrPrefix, "<¦xmlns:a xmlns='u'/>": api.ErrPrefix, "<¦XML:a/>": api.ErrPrefix, "<a ¦xMlns:x='u'/>": api.ErrPrefix,
		"<a ¦xmlns:p=''/>": api.ErrPrefix, "<a xmlns:p='u'><b ¦xmlns:p=''/></a>": api.ErrPrefix, "<a ¦xmlns:xmlns='u'/>": api.ErrPrefix, "<a ¦xmlns:xmlns=''/>": api.ErrPrefix, "<a ¦xmlns:xmlns='" + xmlnsSpace + "'/>": api.ErrPrefix, "<a ¦xmlns:xml='u'/>": api.ErrPrefix, "<a ¦xmlns:xml=''/>": api.ErrPrefix, "<a ¦xmlns:xml='" + xmlnsSpace + "'/>": api.ErrPrefix, "<a ¦xmlns:p='" + xmlSpace + "'/>": api.ErrPrefix, "<a ¦xmlns='" + xmlSpace + "'/>": api.ErrPrefix, "<a ¦xmlns:p='" + xmlnsSpace + "'/>": api.ErrPrefix, "<a ¦xmlns='" + xmlnsSpace + "'/>": api.ErrPrefix, "<a ¦xmlns:p='&#104;ttp://www.w3.org/2000/xmlns/'/>": api.ErrPrefix,
	}.check(t)
	checkRight(t, "<a xmlns=''/>", "<a xmlns='u'><b xmlns=''/></a>", "<a xmlns:xml='"+xmlSpace+"'/>", "<xml:a/>", "<a xml:x=''/>", "<xmlns/>", "<a p:x='' xmlns:p='u'/>", "<p:a q:x='' xmlns:q='v' xmlns:p='u'/>", "<a xmlns:p=' '/>", "<a xmlns:xmlnsx='u'/>", "<a xmlns:XML='u'/>", "<a xmlns:p='"+xmlSpace+" '/>", "<a xmlns='http://www.w3.org/2000/xmlns'/>", "<p:xmlns xmlns:p='u' p:xmlns=''/>", "<p:p xmlns:p='u' p:p=''/>", "<a xmlns:p='&#32;'/>", "<a XMLNS='"+xmlSpace+"'/>")
}

// P6.1: attributes that stand twice, by themselves, by two prefixes, and as declarations.
func TestWrongTwice(t *testing.T) {
	wrongs{
		"<a x='' y='' ¦x=''/>": api.ErrAttr, "<a x='' ¦x='' x=''/>": api.ErrAttr, "<a x='' y='' ¦y='' x=''/>": api.ErrAttr, "<a xmlns:p='u' p:x='' ¦p:x=''/>": api.ErrAttr, "<a p:x='' ¦q:x='' xmlns:p='u' xmlns:q='u'/>": api.ErrAttr, "<a xmlns:p='u'><b xmlns:q='&#117;' q:x='' ¦p:x=''/></a>": api.ErrAttr,
		"<a xmlns='u' ¦xmlns='u'/>": api.ErrAttr, "<a xmlns='' ¦xmlns='u'/>": api.ErrAttr, "<a xmlns:p='u' ¦xmlns:p='u'/>": api.ErrAttr, "<a xmlns:p='u' x='' ¦xmlns:p='v' x=''/>": api.ErrAttr, "<a xml:x='' ¦xml:x=''/>": api.ErrAttr, "<a xmlns:xml='" + xmlSpace + "' ¦xmlns:xml='" + xmlSpace + "'/>": api.ErrAttr, "<a é='' ¦é=''>": api.ErrAttr, "<a><b x='' ¦x=''></b></a>": api.ErrAttr, "<a x='' ¦x=''></b>": api.ErrAttr,
	}.check(t)
	checkRight(t, "<a x='' X=''/>", "<a xmlns:p='u' p:x='' x=''/>", "<p:a xmlns:p='u' xmlns='u' p:x='' x=''/>", "<a xmlns:p='u' xmlns:q='v' p:x='' q:x=''/>", "<a xmlns:x='u' x=''/>", "<a xmlns='u' xmlns:xmlnsx='u' xmlns:p='u'/>", "<a xmlns:p='u' xmlns:q='u' p:x='' q:y=''/>", "<a xmlns:x='u' x:x='' xml:x='' x=''/>", "<a x=''><a x=''/></a>", "<a xmlns:p='u' p:xmlns='' xml:xmlns=''/>", "<a xmlns:p='u'><a xmlns:p='u'/></a>")
}

// P6.1: of several faults in one beginning the one that the chapter's order has first.
func TestWrongOrder(t *testing.T) {
	wrongs{
		// what stands there is told ahead of all that is asked when the > has come
		"<p:a q:x='' x='' x='' xmlns:p='' ¦1/>": api.ErrMarkup, "<p:a x='' x='¦&y;' xmlns:p=''/>": api.ErrRefer, "<p:a x='' x='¦<": api.ErrMarkup, "<p:a x='' x='' xmlns:p=''/¦ >": api.ErrMarkup, "<p:a x='' x='' xmlns:p=''¦": api.ErrEnd, "<p:a x='' x='' /¦": api.ErrEnd, "<p:a x='¦\xff'>": api.ErrEncoding,
		"<a x=¦1 y='&z;'/>": api.ErrMarkup, "<a x='¦&z;' y=1/>": api.ErrRefer,
		// then declarations from the left
		"<p:a q:x='' x='' x='' ¦xmlns:r='' xmlns:xmlns=''/>": api.ErrPrefix, "<a x='' x='' xmlns:r='u' ¦xmlns:r=''/>": api.ErrPrefix, "<a p:x='' xmlns='u' xmlns='u' ¦xmlns:xml='u'/>": api.ErrPrefix,
		// then the element's prefix
		"<¦p:a q:x='' x='' x=''/>": api.ErrPrefix, "<¦p:a xmlns:q='u' xmlns:q='u'/>": api.ErrPrefix,
		// then the attributes' prefixes from the left
		"<a x='' x='' ¦q:x='' p:x=''/>": api.ErrPrefix, "<a xmlns:p='u' xmlns:p='u' ¦q:x=''/>": api.ErrPrefix, "<p:a xmlns:p='u' p:x='' p:x='' ¦q:x=''>": api.ErrPrefix,
		// then what stands twice from the left
		"<a x='' xmlns='u' ¦x='' xmlns='u'/>": api.ErrAttr, "<a x='' xmlns='u' ¦xmlns='u' x=''/>": api.ErrAttr,
	}.check(t)
}
