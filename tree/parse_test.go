package tree_test

import (
	"strings"
	"testing"

	"gridiron/api"
	"gridiron/tree"
)

// parses asks whether documents have these trees.
type parses map[string]api.Node

func (p parses) check(t *testing.T) {
	t.Helper()
	for doc, want := range p {
		n, at, errno := tree.Parse(doc)
		if errno != api.OK || at != 0 || !alike(n, want) {
			t.Errorf("Parse(%q): %s, %d, %d, want %s", doc, shown(n), at, errno, shown(want))
		}
	}
}

// wrongs are documents in which a sign ¦ stands ahead of the byte that is told; the sign is none of the document's.
type wrongs map[string]api.Errno

func (w wrongs) check(t *testing.T) {
	t.Helper()
	for marked, want := range w {
		doc := strings.Replace(marked, "¦", "", 1)
		n, at, errno := tree.Parse(doc)
		if !alike(n, api.Node{}) || at != strings.Index(marked, "¦") || errno != want {
			if len(doc) > 100 {
				doc = doc[:50] + " .. " + doc[len(doc)-50:]
			}
			t.Errorf("Parse(%q): %s, %d, %d, want %d, %d", doc, shown(n), at, errno, strings.Index(marked, "¦"), want)
		}
	}
}

// P7.1: the chapter's example, and elements with names, attributes and kids.
func TestParse(t *testing.T) {
	parses{
		"<a x='1'>b<!-- c -->d</a>":        with(element("a", text("bd")), "x", "1"),
		"<a/>":                             element("a"),
		"<a></a>":                          element("a"),
		"<a> </a>":                         element("a", text(" ")),
		" <a/> ":                           element("a"),
		"<a><b/></a>":                      element("a", element("b")),
		"<a><b/><b/></a>":                  element("a", element("b"), element("b")),
		"<a><b><c/></b></a>":               element("a", element("b", element("c"))),
		"<a>x<b>y</b>z</a>":                element("a", text("x"), element("b", text("y")), text("z")),
		"<a><b><c/>x</b>y<d/></a>":         element("a", element("b", element("c"), text("x")), text("y"), element("d")),
		"<a z='1' y='2' x='3'/>":           with(element("a"), "z", "1", "y", "2", "x", "3"),
		"<a x=''/>":                        with(element("a"), "x", ""),
		"<a xmlns='u'/>":                   element("u a"),
		"<a xmlns='u' x='1'/>":             with(element("u a"), "x", "1"),
		"<p:a xmlns:p='u' p:x='1' x='2'/>": with(element("u a"), "u x", "1", "x", "2"),
		"<a xmlns:p='u' y='1' xmlns:q='v' q:x=''/>":   with(element("a"), "y", "1", "v x", ""),
		"<a xmlns='u'><b xmlns=''><c/></b><d/></a>":   element("u a", element("b", element("c")), element("u d")),
		"<a xmlns:p='u'><p:b xmlns:p='v'/><p:b/></a>": element("a", element("v b"), element("u b")),
		"<xml:a xml:x='1'/>":                          with(element(xmlSpace+" a"), xmlSpace+" x", "1"),
		"<p:a xmlns:p='u' p:xmlns='1'/>":              with(element("u a"), "u xmlns", "1"),
		"<xmlns/>":                                    element("xmlns"),
		"\ufeff<?xml version='1.0' encoding='utf-8'?><!-- --><?p?>\r\n<é ü='ö'>ä</é><?p q?><!-- -->\n": with(element("é", text("ä")), "ü", "ö"),
		"<a x='&#9;&#10;&#13;\t\r\n&lt;'>\r\n&#13;\r\t</a>":                                            with(element("a", text("\n\r\n\t")), "x", "\t\n\r  <"),
	}.check(t)
}

// P7.1: texts that comments, instructions, references and Cdatas part or make are one; empty ones are none.
func TestParseTexts(t *testing.T) {
	one := element("a", text("bc"))
	parses{
		"<a>bc</a>": one, "<a>b<!-- -->c</a>": one, "<a>b<?p?>c</a>": one, "<a>b<?p?><!----><?p?>c</a>": one, "<a><!---->bc<?p?></a>": one,
		"<a>&#98;c</a>": one, "<a>b&#x63;</a>": one, "<a>&#98;&#99;</a>": one, "<a><![CDATA[bc]]></a>": one, "<a>b<![CDATA[c]]></a>": one, "<a><![CDATA[b]]>c</a>": one, "<a><![CDATA[b]]><![CDATA[c]]></a>": one, "<a>b<![CDATA[]]>c</a>": one, "<a><![CDATA[]]>bc<![CDATA[]]></a>": one, "<a><![CDATA[b]]><!----><?p?>&#99;</a>": one,
		"<a><![CDATA[]]></a>": element("a"), "<a><!-- --></a>": element("a"), "<a><?p?></a>": element("a"), "<a><![CDATA[]]><!-- --><![CDATA[]]></a>": element("a"), "<a><![CDATA[]]><b/><![CDATA[]]></a>": element("a", element("b")),
		"<a>b<c/>d</a>": element("a", text("b"), element("c"), text("d")), "<a>b<c/><!-- -->d<?p?></a>": element("a", text("b"), element("c"), text("d")), "<a><!-- -->b<c>d</c></a>": element("a", text("b"), element("c", text("d"))), "<a><b/><!----><b/></a>": element("a", element("b"), element("b")), "<a><b/>\n<b/></a>": element("a", element("b"), text("\n"), element("b")),
		"<a>&lt;&gt;&amp;&quot;&apos;</a>": element("a", text("<>&\"'")), "<a><![CDATA[<&>]]]]><![CDATA[>]]></a>": element("a", text("<&>]]>")),
	}.check(t)
}

// P7.1: each error of chapter 6 is told with its place.
func TestParseWrong(t *testing.T) {
	wrongs{
		"¦": api.ErrMarkup, " ¦": api.ErrMarkup, "¦x": api.ErrMarkup, "<¦": api.ErrMarkup, "<a/><¦b/>": api.ErrMarkup, "<a>]]¦></a>": api.ErrMarkup, "<a x=''¦y=''/>": api.ErrMarkup, "<a/>¦x": api.ErrMarkup,
		"<a¦": api.ErrEnd, "<a>¦": api.ErrEnd, "<a>x¦": api.ErrEnd, "<a><b/>¦": api.ErrEnd, "<a><b>¦</a>": api.ErrEnd, "<a>¦</b>": api.ErrEnd, "<a/><!--¦": api.ErrEnd,
		"<a>¦&x;</a>": api.ErrRefer, "<a x='¦&#0;'/>": api.ErrRefer, "<a>b<c/>é¦&lt</a>": api.ErrRefer,
		"<¦p:a/>": api.ErrPrefix, "<a ¦p:x=''/>": api.ErrPrefix, "<a ¦xmlns:p=''/>": api.ErrPrefix, "<a ¦xmlns='" + xmlnsSpace + "'/>": api.ErrPrefix, "<a><b xmlns:p='u'/><¦p:c/></a>": api.ErrPrefix,
		"<a x='' ¦x=''/>": api.ErrAttr, "<a><b xmlns:p='u' xmlns:q='u' p:x='' ¦q:x=''/></a>": api.ErrAttr,
		"¦<!DOCTYPE a><a/>": api.ErrDoctype, "<a/>¦<!DOCTYPE a>": api.ErrDoctype,
		"<?xml version='1.0' encoding='¦latin-1'?><a/>": api.ErrEncoding, "<a>¦\xff</a>": api.ErrEncoding, "<a/>¦\x00": api.ErrEncoding,
		"<a" + manyAttrs(api.MaxAttrs) + " ¦y=''/>": api.ErrLong, "<a><b xmlns:p='u'" + manyAttrs(api.MaxAttrs-1) + " ¦y=''/></a>": api.ErrLong,
	}.check(t)
}

// manyAttrs are n attributes, each with a blank ahead.
func manyAttrs(n int) string {
	all := ""
	for i := range n {
		all += " x" + strings.Repeat("x", i) + "=''"
	}
	return all
}

func nest(n int) string {
	return strings.Repeat("<a>", n)
}

func unnest(n int) string {
	return strings.Repeat("</a>", n)
}

// P7.1: MaxElems elements within one another, with what may stand in the innermost one; and beside one another.
func TestParseDeepest(t *testing.T) {
	const most = api.MaxElems
	for inside, kids := range map[string][]api.Node{"": nil, "x": {text("x")}, "<!-- -->": nil, "<![CDATA[]]>": nil, "<?p?>x": {text("x")}} {
		want := element("a", kids...)
		for range most - 1 {
			want = element("a", want)
		}
		parses{nest(most) + inside + unnest(most): want}.check(t)
	}
	two := nest(most-1) + "<a/>x<a>y</a>" + unnest(most-1)
	if n, at, errno := tree.Parse(two); errno != api.OK || at != 0 || tree.Count(n) != most+3 {
		t.Error("two beside one another:", tree.Count(n), at, errno)
	}
	again := "<r>" + strings.Repeat(nest(most-1)+unnest(most-1), 3) + "</r>"
	if n, at, errno := tree.Parse(again); errno != api.OK || at != 0 || tree.Count(n) != 3*(most-1)+1 {
		t.Error("three one behind the other:", tree.Count(n), at, errno)
	}
}

// P7.1: an element within MaxElems, with faults of chapter 6 ahead of it, in it and behind it.
func TestParseTooDeep(t *testing.T) {
	deep := nest(api.MaxElems)
	wrongs{
		deep + "¦<a/>" + unnest(api.MaxElems): api.ErrDeep, deep + "¦<a>" + unnest(api.MaxElems+1): api.ErrDeep, deep + "text¦<b x='1'/>": api.ErrDeep, "\ufeff<?xml version='1.0'?>\r\n<!--é-->" + deep + "é<!-- -->\r\n¦<b>": api.ErrDeep, deep + unnest(1) + "<a>x¦<a>": api.ErrDeep, nest(api.MaxElems-1) + "<a/>x<a>¦<b/>": api.ErrDeep,
		// behind it
		deep + "¦<a>": api.ErrDeep, deep + "¦<a/>\xff": api.ErrDeep, deep + "¦<a/><": api.ErrDeep, deep + "¦<a></b>": api.ErrDeep, deep + "¦<a>&x;": api.ErrDeep, deep + "¦<a><!DOCTYPE": api.ErrDeep, deep + "¦<a/></b>": api.ErrDeep, deep + "¦" + nest(api.MaxNesting): api.ErrDeep,
		// ahead of it
		deep + "¦\xff<a/>": api.ErrEncoding, deep + "¦&x;<a/>": api.ErrRefer, deep + "]]¦><a/>": api.ErrMarkup, deep + "¦</b><a/>": api.ErrEnd, deep + "¦<!DOCTYPE a><a/>": api.ErrDoctype, "<a x='' ¦x=''>" + deep: api.ErrAttr, "<?xml version='1.0' encoding='¦x'?>" + deep + "<a/>": api.ErrEncoding,
		// in it
		deep + "<a¦": api.ErrEnd, deep + "<a ¦": api.ErrEnd, deep + "<a/¦": api.ErrEnd, deep + "<a ¦<": api.ErrMarkup, deep + "<a x='' ¦x=''/>": api.ErrAttr, deep + "<¦p:a/>": api.ErrPrefix, deep + "<a ¦p:x=''/>": api.ErrPrefix, deep + "<a ¦xmlns:p=''/>": api.ErrPrefix, deep + "<a x='¦&x;'/>": api.ErrRefer, deep + "<a x='¦\xff'/>": api.ErrEncoding, deep + "<a" + manyAttrs(api.MaxAttrs) + " ¦y=''/>": api.ErrLong, deep + "<¦1": api.ErrMarkup,
		// the second of what is wrong
		deep + "x¦<a><a>": api.ErrDeep,
	}.check(t)
}

// P7.1: MaxNodes nodes, elements alone and texts among them.
func TestParseMostNodes(t *testing.T) {
	t.Parallel()
	const most = api.MaxNodes
	for doc, kids := range map[string]int{
		"<a>" + strings.Repeat("<b/>", most-1) + "</a>":                                        most - 1,
		"<a>" + strings.Repeat("t<b/>", most/2-1) + "t</a>":                                    most - 1,
		"<a>" + strings.Repeat("<b/>t", most/2-1) + "<b/></a>":                                 most - 1,
		"<a>" + strings.Repeat("<b>t</b>", most/2-1) + "<b/></a>":                              most / 2,
		"<a>" + strings.Repeat("<b/>", most-1) + "<!-- --><![CDATA[]]><?p?></a> <!-- --><?p?>": most - 1,
	} {
		n, at, errno := tree.Parse(doc)
		if errno != api.OK || at != 0 || tree.Count(n) != most || len(n.Kids) != kids {
			t.Errorf("Parse(%q ..): %d nodes, %d kids, %d, %d", doc[:20], tree.Count(n), len(n.Kids), at, errno)
		}
	}
}

// P7.1: a node more than MaxNodes, an element or a text, with faults of chapter 6 ahead of it, in it and behind it.
func TestParseTooManyNodes(t *testing.T) {
	t.Parallel()
	full := "<a>" + strings.Repeat("t<b/>", api.MaxNodes/2-1) + "<b/>"
	wrongs{
		full + "¦<b/></a>": api.ErrNodes, full + "¦t</a>": api.ErrNodes, full + "¦<b>": api.ErrNodes, full + "<!-- -->\r\n"[:8] + "¦<b/></a>": api.ErrNodes, full + "<!-- -->¦t<!-- -->t</a>": api.ErrNodes, full + "<?p?>¦&#65;</a>": api.ErrNodes, full + "¦<![CDATA[]]>t</a>": api.ErrNodes, full + "<!-- -->¦<![CDATA[t]]></a>": api.ErrNodes,
		// behind it
		full + "¦<b/>": api.ErrNodes, full + "¦<b/>&x;": api.ErrNodes, full + "¦<b></c>": api.ErrNodes, full + "¦<b/>\xff": api.ErrNodes, full + "¦t</b>": api.ErrNodes, full + "¦t</": api.ErrNodes, full + "¦t<c": api.ErrNodes, full + "¦t<p:c/>": api.ErrNodes, full + "¦t<c x='' x=''/>": api.ErrNodes, full + "¦t</\xff": api.ErrNodes, full + "¦t" + nest(api.MaxElems): api.ErrNodes, full + "¦" + nest(api.MaxElems): api.ErrNodes,
		// ahead of it, or in it
		full + "¦": api.ErrEnd, full + "¦&x;<b/>": api.ErrRefer, full + "t¦&x;</a>": api.ErrRefer, full + "t¦": api.ErrEnd, full + "t<¦": api.ErrEnd, full + "t<¦1": api.ErrMarkup, full + "t<!¦x": api.ErrMarkup, full + "t]]¦></a>": api.ErrMarkup, full + "t¦<!DOCTYPE": api.ErrDoctype, full + "t¦\xff</a>": api.ErrEncoding, full + "t<?¦xml?></a>": api.ErrMarkup, full + "<b¦": api.ErrEnd, full + "<b x='' ¦x=''/>": api.ErrAttr, full + "<¦p:b/>": api.ErrPrefix, full + "<b ¦xmlns:p=''/>": api.ErrPrefix, full + "<b x='¦<'/>": api.ErrMarkup, full + "¦</b>": api.ErrEnd,
		// no node more
		full + "</a>¦x": api.ErrMarkup, full + "</a><¦b/>": api.ErrMarkup, full + "<![CDATA[]]></a><!--¦": api.ErrEnd,
	}.check(t)
}

// P7.1: what is both a node too many and too deep is too deep; of two faults the first one is told.
func TestParseDeepAndMany(t *testing.T) {
	t.Parallel()
	ahead := strings.Repeat("<b/>", api.MaxNodes-api.MaxElems-1)
	deep := nest(api.MaxElems - 1)
	wrongs{
		"<a>" + ahead + deep + "</a><a/>¦<a/>":                         api.ErrNodes,
		"<a>" + ahead + "<b/>" + deep + "¦<a/>":                        api.ErrDeep,
		"<a>" + ahead + "<b/>" + deep + "¦t<a/>":                       api.ErrNodes,
		"<a>" + ahead + deep + "t¦<a/>":                                api.ErrDeep,
		"<a>" + ahead + deep + "¦<a/>":                                 api.ErrDeep,
		"<a>" + ahead + "<b/><b/>" + nest(api.MaxElems-2) + "¦<a><a/>": api.ErrNodes,
	}.check(t)
}

// P7.1: MaxMarkup bytes, and more, with faults of trees ahead of that place and behind it.
func TestParseLong(t *testing.T) {
	t.Parallel()
	const most = api.MaxMarkup
	full := func(begin, end string, n int) string {
		return begin + strings.Repeat("t", n-len(begin)-len(end)) + end
	}
	n, at, errno := tree.Parse(full("<a>", "</a>", most))
	if errno != api.OK || at != 0 || tree.Count(n) != 2 || len(tree.Text(n)) != most-7 {
		t.Error("MaxMarkup bytes:", tree.Count(n), at, errno)
	}
	deep := nest(api.MaxElems)
	nodes := "<a>" + strings.Repeat("<b/>", api.MaxNodes-1)
	for i, doc := range []string{
		full("<a>", "</a>", most+1), full("<a>", "</a>", most+100), strings.Repeat("x", most+1), full("<a>&x;", "</a>", most+1), full("<a></b>", "", most+1), full(deep, "<a/>", most+4), full(deep, "<a/>", most+1), full(nodes, "</a>", most+5), full("<a/>x", "", most+1), full(deep+"<a x='' x=''/>", "", most+1),
	} {
		if n, at, errno := tree.Parse(doc); !alike(n, api.Node{}) || at != most || errno != api.ErrLong {
			t.Errorf("document %d: %d nodes, %d, %d", i, tree.Count(n), at, errno)
		}
	}
	if _, at, errno := tree.Parse(full(deep+"<a/>", "", most+1)); at != len(deep) || errno != api.ErrDeep {
		t.Error("too deep ahead of MaxMarkup:", at, errno)
	}
	if _, at, errno := tree.Parse(full(nodes+"<b/>", "", most+1)); at != len(nodes) || errno != api.ErrNodes {
		t.Error("too many nodes ahead of MaxMarkup:", at, errno)
	}
	if _, at, errno := tree.Parse(full(nodes, "</a>", most+2)); at != len(nodes) || errno != api.ErrNodes {
		t.Error("a long text too many:", at, errno)
	}
}
