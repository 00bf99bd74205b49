package markup_test

import (
	"slices"
	"strconv"
	"strings"
	"testing"

	"gridiron/api"
	"gridiron/markup"
)

// writer puts a drawn document together, and takes down the tokens that it must have.
type writer struct {
	d      *draws
	doc    strings.Builder
	tokens []api.Token
	plain  bool // whether nothing stands there that need not
	said   string
	saidAt int
}

// drawn is a document that may be, and its tokens.
func drawn(d *draws) (string, []api.Token) {
	n := drawnNode(d, 4)
	return laid(d, n, false)
}

// node is an element of a drawn tree, or a text.
type node struct {
	prefix, local string
	declared      [][2]string // prefixes and name spaces, in pairs
	attrs         []api.Attr  // with prefixes for name spaces
	kids          []node
	text          string
}

var spacesOf = []string{"u", "v", "http://x/é", "a b", "&<\"'"}

func drawnName(d *draws) string {
	return d.pick("a", "b", "é1", "x-y", "_", "xmlns", "n.", "A\u0300")
}

// drawnNode is an element whose prefixes p and q are always declared where it is asked for at first.
func drawnNode(d *draws, deep int) node {
	n := node{prefix: d.pick("", "", "p", "q", "xml"), local: drawnName(d)}
	if deep == 4 {
		n.declared = append(n.declared, [2]string{"p", "u"}, [2]string{"q", "v"})
	} else if d.below(4) == 0 {
		n.declared = append(n.declared, [2]string{d.pick("p", "q", "r"), spacesOf[d.below(len(spacesOf))]})
	}
	if d.below(4) == 0 {
		n.declared = append(n.declared, [2]string{"", append(spacesOf, "")[d.below(len(spacesOf)+1)]})
	}
	for i := range d.below(4) {
		n.attrs = append(n.attrs, api.Attr{Space: d.pick("", "", "p", "q", "xml"), Local: "a" + strconv.Itoa(i), Value: drawnText(d)})
	}
	for range d.below(5) * min(deep, 1) {
		if d.below(2) == 0 && (len(n.kids) == 0 || n.kids[len(n.kids)-1].text == "") {
			n.kids = append(n.kids, node{text: "t" + drawnText(d)})
			continue
		}
		n.kids = append(n.kids, drawnNode(d, deep-1))
	}
	return n
}

func drawnText(d *draws) string {
	all := ""
	for range d.below(5) {
		all += d.pick("a", "bc", " ", "\n", "\t", "\r", "<", ">", "&", "\"", "'", "]]>", "]", "--", "?>", "é", "\U0001F600", "\ufeff", "&lt;", "<!--", "<![CDATA[")
	}
	return all
}

// laid is a tree as a document, plainly or in a drawn layout, and its tokens.
func laid(d *draws, n node, plain bool) (string, []api.Token) {
	w := &writer{d: d, plain: plain}
	if w.maybe() {
		w.put("\ufeff")
	}
	if w.maybe() {
		w.declaration()
	}
	w.misc(true)
	w.element(n, map[string]string{"xml": xmlSpace})
	w.misc(true)
	return w.doc.String(), w.tokens
}

func (w *writer) put(s string) {
	w.doc.WriteString(s)
}

func (w *writer) maybe() bool {
	return !w.plain && w.d.below(2) == 0
}

func (w *writer) space() {
	for w.maybe() {
		w.put(w.d.pick(" ", "\n", "\t", "\r", "\r\n"))
	}
}

func (w *writer) equals() {
	w.space()
	w.put("=")
	w.space()
}

func (w *writer) declaration() {
	quote := func() string { return w.d.pick("'", "\"") }
	part := func(name, value string) {
		q := quote()
		w.put(w.d.pick(" ", "\n", "\r\n"))
		w.space()
		w.put(name)
		w.equals()
		w.put(q + value + q)
	}
	w.put("<?xml")
	part("version", "1.0")
	if w.maybe() {
		part("encoding", w.d.pick("UTF-8", "utf-8", "uTf-8"))
	}
	if w.maybe() {
		part("standalone", w.d.pick("yes", "no"))
	}
	w.space()
	w.put("?>")
}

// misc is what is no token: comments and instructions; outside of the element spaces, too.
func (w *writer) misc(outside bool) {
	for w.maybe() {
		w.put(w.d.pick("<!---->", "<!-- a - b > ]]> <c> &x; <?p?> -->", "<!--\r\n-->", "<?p?>", "<?p q?r ??>", "<?xmlx <a>&--?>", "<?x \r\n?>"))
		if outside {
			w.space()
		}
	}
}

func (w *writer) at() int {
	return w.doc.Len()
}

func (w *writer) name(prefix, local string) string {
	if prefix == "" {
		return local
	}
	return prefix + ":" + local
}

func (w *writer) element(n node, outer map[string]string) {
	spaces := map[string]string{}
	for p, s := range outer {
		spaces[p] = s
	}
	for _, pair := range n.declared {
		spaces[pair[0]] = pair[1]
	}
	start := api.Token{Kind: api.TokStart, Space: spaces[n.prefix], Local: n.local, At: w.at()}
	for _, a := range n.attrs {
		space := ""
		if a.Space != "" {
			space = spaces[a.Space]
		}
		start.Attrs = append(start.Attrs, api.Attr{Space: space, Local: a.Local, Value: a.Value})
	}
	w.tokens = append(w.tokens, start)
	w.put("<" + w.name(n.prefix, n.local))
	w.attributes(n)
	w.space()
	end := api.Token{Kind: api.TokEnd, Space: start.Space, Local: start.Local, At: w.at()}
	if len(n.kids) == 0 && w.maybe() {
		w.put("/>")
	} else {
		w.put(">")
		w.kids(n, spaces)
		end.At = w.at()
		w.put("</" + w.name(n.prefix, n.local))
		w.space()
		w.put(">")
	}
	w.tokens = append(w.tokens, end)
}

// attributes puts declarations and attributes, these in their order, those anywhere among them.
func (w *writer) attributes(n node) {
	declarations := n.declared
	for _, a := range n.attrs {
		for len(declarations) > 0 && (w.plain || w.d.below(2) == 0) {
			w.declare(declarations[0])
			declarations = declarations[1:]
		}
		w.attribute(w.name(a.Space, a.Local), a.Value)
	}
	for _, pair := range declarations {
		w.declare(pair)
	}
}

func (w *writer) declare(pair [2]string) {
	if pair[0] == "" {
		w.attribute("xmlns", pair[1])
		return
	}
	w.attribute("xmlns:"+pair[0], pair[1])
}

func (w *writer) attribute(name, value string) {
	quote := "\""
	if w.maybe() {
		quote = "'"
	}
	if w.plain {
		w.put(" ")
	} else {
		w.put(w.d.pick(" ", "\t", "\n", "\r", "\r\n"))
	}
	w.space()
	w.put(name)
	w.equals()
	w.put(quote)
	for _, c := range value {
		switch {
		case c == ' ' && w.maybe():
			w.put(w.blank())
		case strings.ContainsRune("<&\t\n\r"+quote, c) || w.maybe():
			w.put(w.reference(c))
		default:
			w.put(string(c))
		}
	}
	w.put(quote)
}

// blank is one of the ways to tell a blank in a value; behind a 13 a 10 would be none by itself.
func (w *writer) blank() string {
	if strings.HasSuffix(w.doc.String(), "\r") {
		return "\t"
	}
	return w.d.pick("\t", "\n", "\r", "\r\n")
}

// reference is one of the ways to tell a character.
func (w *writer) reference(c rune) string {
	named := map[rune]string{'<': "&lt;", '>': "&gt;", '&': "&amp;", '"': "&quot;", '\'': "&apos;"}[c]
	if named != "" && !w.maybe() {
		return named
	}
	noughts := ""
	for w.maybe() {
		noughts += "0"
	}
	if w.maybe() {
		return "&#x" + noughts + strings.ToUpper(strconv.FormatInt(int64(c), 16)) + ";"
	}
	if w.maybe() {
		return "&#x" + noughts + strconv.FormatInt(int64(c), 16) + ";"
	}
	return "&#" + noughts + strconv.Itoa(int(c)) + ";"
}

func (w *writer) kids(n node, spaces map[string]string) {
	w.misc(false)
	for _, kid := range n.kids {
		if kid.text == "" {
			w.element(kid, spaces)
		} else {
			w.text(kid.text)
		}
		w.misc(false)
	}
}

// text puts a text as texts, references and Cdatas, with comments and instructions among them.
func (w *writer) text(text string) {
	token := api.Token{Kind: api.TokText, Text: text, At: w.at()}
	// characters that stand there themselves may make up ]]> , so that each > is a reference, or stands in a Cdata
	for _, c := range text {
		switch {
		case c != '\r' && w.maybe() && w.maybe():
			w.put("<![CDATA[")
			if c == '\n' {
				w.put(w.d.pick("\n", "\r\n"))
			} else {
				w.put(string(c))
			}
			w.put("]]>")
		case strings.ContainsRune("<&>\r", c) || w.maybe():
			w.put(w.reference(c))
		case c == '\n' && w.maybe():
			// ahead of a 10 that stands there itself a 13 alone would be none
			w.put("\r\n")
		default:
			w.put(string(c))
		}
		if w.maybe() && w.maybe() {
			w.put("<![CDATA[]]>")
		}
		w.misc(false)
	}
	w.tokens = append(w.tokens, token)
}

// P6.2, P6.4: the tokens of drawn documents are those that they were made of.
func TestDrawn(t *testing.T) {
	t.Parallel()
	d := draws(62)
	for range 6000 {
		doc, want := drawn(&d)
		got, at, errno := markup.Tokens([]byte(doc))
		if errno != api.OK || at != 0 || !slices.EqualFunc(got, want, alike) {
			t.Fatalf("Tokens(%q): %v, %d, %d, want %v", doc, got, at, errno, want)
		}
		checkTree(t, doc, got)
		if all := told(t, doc); !slices.EqualFunc(all, want, alike) {
			t.Fatalf("All(%q): %v, want %v", doc, all, want)
		}
	}
}

// P6.5: one tree in several layouts is the same but for places.
func TestLayouts(t *testing.T) {
	t.Parallel()
	d := draws(65)
	for range 1500 {
		n := drawnNode(&d, 4)
		plain, _ := laid(&d, n, true)
		want, _, errno := markup.Tokens([]byte(plain))
		if errno != api.OK {
			t.Fatalf("Tokens(%q): %d", plain, errno)
		}
		for range 4 {
			doc, _ := laid(&d, n, false)
			got, _, errno := markup.Tokens([]byte(doc))
			if errno != api.OK || !markup.Same(got, want) || !markup.Same(want, got) {
				t.Fatalf("Tokens(%q): %v, %d, want those of %q", doc, got, errno, plain)
			}
			for i := range got {
				got[i].At = want[i].At
			}
			if !slices.EqualFunc(got, want, alike) {
				t.Fatalf("Tokens(%q): %v, want those of %q", doc, got, plain)
			}
		}
	}
}

// P6.5: one thing more or less that is mere layout, each by itself.
func TestLayoutOneByOne(t *testing.T) {
	for _, c := range [][]string{
		{"<a x='1'>b</a>", "<a x=\"1\">b</a>", "<a  x='1'>b</a>", "<a\tx='1'>b</a>", "<a\nx='1'>b</a>", "<a\rx='1'>b</a>", "<a\r\nx='1'>b</a>", "<a x ='1'>b</a>", "<a x= '1'>b</a>", "<a x\r\n=\t'1' >b</a>", "<a x='1'>b</a >", "<a x='1'>b</a\r\n>",
			"<!--c--><a x='1'>b</a>", "<a x='1'><!--c-->b</a>", "<a x='1'>b<!--c--></a>", "<a x='1'>b</a><!--c-->", "<?p?><a x='1'>b</a>", "<a x='1'><?p?>b</a>", "<a x='1'>b<?p c?></a>", "<a x='1'>b</a><?p?>", " <a x='1'>b</a>", "<a x='1'>b</a> ", "\r\n<a x='1'>b</a>\r",
			"\ufeff<a x='1'>b</a>", "<?xml version='1.0'?><a x='1'>b</a>", "\ufeff<?xml version='1.0' encoding='utf-8'?> <a x='1'>b</a>"},
		{"<a></a>", "<a/>", "<a />", "<a><!----></a>", "<a><![CDATA[]]></a>", "<a\r/>", "<a ></a>", "<a><?p?><!----></a>"},
		{"<a>bc</a>", "<a>b<!---->c</a>", "<a>b<?p?>c</a>", "<a>b<![CDATA[c]]></a>", "<a><![CDATA[b]]><!---->c</a>", "<a><![CDATA[]]>bc</a>", "<a>&#98;c</a>", "<a><![CDATA[b]]><![CDATA[c]]></a>"},
	} {
		want, _, errno := markup.Tokens([]byte(c[0]))
		if errno != api.OK {
			t.Errorf("Tokens(%q): %d", c[0], errno)
		}
		for _, doc := range c {
			if got, at, errno := markup.Tokens([]byte(doc)); errno != api.OK || at != 0 || !markup.Same(got, want) {
				t.Errorf("Tokens(%q): %v, %d, %d", doc, got, at, errno)
			}
		}
	}
}
