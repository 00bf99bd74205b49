package tree_test

import (
	"encoding/xml"
	"io"
	"slices"
	"strings"
	"testing"

	"gridiron/api"
	"gridiron/tree"
)

// checkParse holds Parse of a document against the model, and what follows of it.
func checkParse(t *testing.T, doc string) {
	t.Helper()
	n, at, errno := tree.Parse(doc)
	want, wantAt, wantErrno := modelParse(doc)
	if !alike(n, want) || at != wantAt || errno != wantErrno {
		t.Fatalf("Parse(%q): %s, %d, %d, want %s, %d, %d", doc, shown(n), at, errno, shown(want), wantAt, wantErrno)
	}
	if errno == api.OK {
		checkOneText(t, n)
	}
}

// checkOneText asks of a tree that Parse has answered whether Write answers its text, and Parse of that the tree.
func checkOneText(t *testing.T, n api.Node) {
	t.Helper()
	var l []api.Prefix
	for i, space := range spacesOf(n) {
		l = append(l, api.Prefix{Prefix: "abcdefgh"[i : i+1], Space: space})
	}
	s, errno := tree.Write(n, l)
	want, _ := modelWrite(n, l)
	if errno != api.OK || s != want || tree.Check(n) != api.OK {
		t.Fatalf("Write(%s): %q, %d, want %q", shown(n), s, errno, want)
	}
	if back, at, errno := tree.Parse(s); errno != api.OK || at != 0 || !alike(back, n) || !tree.Same(back, n) {
		t.Fatalf("Parse(%q): %s, %d, %d, want %s", s, shown(back), at, errno, shown(n))
	}
	if again, errno := tree.Write(n, l); errno != api.OK || again != s {
		t.Fatalf("Write(%s) again: %q, %d, want %q", shown(n), again, errno, s)
	}
}

// P7.1, P7.5: all short rows of what stands within an element.
func TestAllContents(t *testing.T) {
	t.Parallel()
	parts := []string{"t", " ", "]]>", "&lt;", "&x;", "&#13;", "<![CDATA[]]>", "<![CDATA[c]]>", "<!-- -->", "<?p?>", "<b/>", "<b>", "</b>", "<p:b p:x='1' x='2'/>", "<b xmlns='v' y='&#10;'>", "</a>", "\r\n", "\x00"}
	texts(parts, 4, func(s string) { checkParse(t, "<a xmlns:p='u'>"+s+"</a>") })
}

// texts goes through all texts of at most so many of the parts.
func texts(parts []string, most int, visit func(string)) {
	var rest func(string, int)
	rest = func(s string, more int) {
		visit(s)
		if more > 0 {
			for _, part := range parts {
				rest(s+part, more-1)
			}
		}
	}
	rest("", most)
}

// P7.1, P7.4, P7.5: drawn trees in drawn layouts are read, written and read again.
func TestDrawnLayouts(t *testing.T) {
	t.Parallel()
	d := draws(71)
	for range 3000 {
		n := drawnTree(&d, 4)
		doc := laid(&d, n)
		got, at, errno := tree.Parse(doc)
		if errno != api.OK || at != 0 || !alike(got, n) {
			t.Fatalf("Parse(%q): %s, %d, %d, want %s", doc, shown(got), at, errno, shown(n))
		}
		checkOneText(t, got)
	}
}

// P7.2, P7.4: drawn trees with drawn prefixes, there and back; the library's own reader reads the same.
func TestDrawnTrees(t *testing.T) {
	t.Parallel()
	d := draws(74)
	for range 4000 {
		n := drawnTree(&d, 4)
		l := drawnPrefixes(&d, n)
		s, errno := tree.Write(n, l)
		want, wantErrno := modelWrite(n, l)
		if s != want || errno != wantErrno || errno != api.OK {
			t.Fatalf("Write(%s, %q): %q, %d, want %q, %d", shown(n), l, s, errno, want, wantErrno)
		}
		if back, at, errno := tree.Parse(s); errno != api.OK || at != 0 || !alike(back, n) {
			t.Fatalf("Parse(%q): %s, %d, %d, want %s", s, shown(back), at, errno, shown(n))
		}
		if other := byLibrary(t, s); !alike(other, n) {
			t.Fatalf("the library's reader of %q: %s, want %s", s, shown(other), shown(n))
		}
		if len(l) > 0 {
			lacking := slices.Delete(slices.Clone(l), 0, 1)
			s, errno := tree.Write(n, lacking)
			if want, wantErrno := modelWrite(n, lacking); s != want || errno != wantErrno {
				t.Fatalf("Write(%s, %q): %q, %d, want %q, %d", shown(n), lacking, s, errno, want, wantErrno)
			}
		}
	}
}

// byLibrary is a document's tree as the library's own reader sees it.
func byLibrary(t *testing.T, s string) api.Node {
	decoder := xml.NewDecoder(strings.NewReader(s))
	open := []api.Node{{}}
	for {
		token, err := decoder.Token()
		if err == io.EOF {
			break
		}
		if err != nil {
			t.Fatalf("the library's reader of %q: %v", s, err)
		}
		last := &open[len(open)-1]
		switch x := token.(type) {
		case xml.StartElement:
			n := api.Node{Elem: true, Name: fromLibrary(x.Name)}
			for _, a := range x.Attr {
				if a.Name.Space != "xmlns" && (a.Name.Space != "" || a.Name.Local != "xmlns") {
					n.Attrs = append(n.Attrs, api.XAttr{Name: fromLibrary(a.Name), Value: a.Value})
				}
			}
			open = append(open, n)
		case xml.EndElement:
			open = open[:len(open)-1]
			parent := &open[len(open)-1]
			parent.Kids = append(parent.Kids, *last)
		case xml.CharData:
			if len(open) > 1 {
				last.Kids = append(last.Kids, text(string(x)))
			}
		}
	}
	return open[0].Kids[0]
}

func fromLibrary(n xml.Name) api.XName {
	if n.Space == "xml" {
		return api.XName{Space: xmlSpace, Local: n.Local}
	}
	return api.XName{Space: n.Space, Local: n.Local}
}

// P7.1, P7.5, R1: drawn documents with something taken out, put in, or put elsewhere.
func TestSpoilt(t *testing.T) {
	t.Parallel()
	d := draws(7)
	for range 800 {
		doc := laid(&d, drawnTree(&d, 3))
		checkParse(t, doc)
		for range 10 {
			checkParse(t, spoiltDocument(&d, doc))
		}
	}
}

func spoiltDocument(d *draws, doc string) string {
	from := d.below(len(doc) + 1)
	to := min(len(doc), from+d.below(4))
	switch d.below(4) {
	case 0:
		return doc[:from] + doc[to:]
	case 1:
		return doc[:from] + d.pick("<", ">", "/", "&", "\"", "'", "=", " ", ":", "a", "]]>", "<!--", "-->", "<![CDATA[", "<b>", "</b>", "<b/>", "\r", "\xff", "\x00", "é", " xmlns:p='u'", " p:x=''", "<!DOCTYPE", "&#0;", "&lt;", "text") + doc[to:]
	case 2:
		to = min(len(doc), from+d.below(40))
		return doc[:to] + doc[from:]
	}
	return doc[:from]
}

// small are nodes with few things in them, many of which may not be.
func small() []api.Node {
	var all []api.Node
	for _, elem := range []bool{true, false} {
		for _, said := range []string{"", "t", "\x00"} {
			for _, name := range []api.XName{{}, named("a"), named("u a"), named("u "), named("1"), named(xmlnsSpace + " a"), named(xmlSpace + " a"), named("w xmlns")} {
				for _, attrs := range [][]api.XAttr{nil, {attr("x", "1")}, {attr("u x", "1"), attr("x", "")}, {attr("x", "1"), attr("x", "2")}, {attr("xmlns", "u")}, {attr("x", "\x00")}} {
					all = append(all, api.Node{Elem: elem, Text: said, Name: name, Attrs: attrs})
				}
			}
		}
	}
	return all
}

// checkNodes holds all that takes a node against the model.
func checkNodes(t *testing.T, n api.Node) {
	t.Helper()
	if errno := tree.Check(n); errno != modelCheck(n) {
		t.Fatalf("Check(%s): %d, want %d", shown(n), errno, modelCheck(n))
	}
	s, errno := tree.Write(n, prefixes)
	if want, wantErrno := modelWrite(n, prefixes); s != want || errno != wantErrno {
		t.Fatalf("Write(%s): %q, %d, want %q, %d", shown(n), s, errno, want, wantErrno)
	}
	if errno == api.OK {
		if back, at, errno := tree.Parse(s); errno != api.OK || at != 0 || !tree.Same(back, n) || !alike(back, n) {
			t.Fatalf("Parse(%q): %s, %d, %d, want %s", s, shown(back), at, errno, shown(n))
		}
	}
	if said := tree.Text(n); said != modelText(n) {
		t.Fatalf("Text(%s): %q, want %q", shown(n), said, modelText(n))
	}
	if all := modelAll(n); tree.Count(n) != len(all) || !slices.EqualFunc(told(n), all, sameVisit) {
		t.Fatalf("All(%s): %v, %d", shown(n), told(n), tree.Count(n))
	}
}

// P7.2, P7.3, P7.4: all small nodes, alone and within one another, most of which may not be.
func TestAllSmall(t *testing.T) {
	t.Parallel()
	all := small()
	good := element("a")
	for _, n := range all {
		checkNodes(t, n)
		checkNodes(t, element("r", n))
		checkNodes(t, element("r", good, element("s", n)))
		for _, k := range all {
			n.Kids = []api.Node{k}
			checkNodes(t, n)
		}
	}
	for _, a := range all {
		for i, b := range all {
			if i%3 == 0 || !a.Elem && !b.Elem {
				checkNodes(t, element("r", a, b))
			}
		}
	}
}

// P7.3: Same of all pairs of small nodes.
func TestAllPairs(t *testing.T) {
	t.Parallel()
	all := small()
	for _, n := range small() {
		for _, kids := range [][]api.Node{{{}}, {text("t")}, {text("t"), element("a")}} {
			if n.Text == "" {
				n.Kids = kids
				all = append(all, n)
			}
		}
	}
	names := make([]string, len(all))
	for i, n := range all {
		names[i] = shown(n)
	}
	for i, a := range all {
		for k, b := range all {
			if tree.Same(a, b) != (names[i] == names[k]) {
				t.Fatalf("Same(%s, %s)", names[i], names[k])
			}
		}
	}
}

// P7.5: trees that are not the same have other texts.
func TestAllTextsUnlike(t *testing.T) {
	t.Parallel()
	var leaves []api.Node
	for _, name := range []string{"a", "u a", "b", "v a"} {
		leaves = append(leaves, element(name), with(element(name), "x", ""), with(element(name), "x", "1"), with(element(name), "u x", ""), with(element(name), "x", "", "u x", ""), with(element(name), "u x", "", "x", ""), with(element(name), "x", "\" x=\""))
	}
	leaves = append(leaves, text("t"), text(" "), text("<a/>"), text("&lt;"), text("\n"), text("\r"), text("a"))
	found := map[string]string{}
	see := func(n api.Node) {
		s, errno := tree.Write(n, prefixes)
		if errno != api.OK {
			return
		}
		if other, known := found[s]; known && other != shown(n) {
			t.Fatalf("Write of %s and of %s: %q", other, shown(n), s)
		}
		found[s] = shown(n)
	}
	for _, a := range leaves {
		see(a)
		see(element("a", a))
		for _, b := range leaves {
			see(element("a", a, b))
			see(element("a", element("a", a), b))
			see(element("a", element("a", a, b)))
			for _, c := range leaves {
				see(element("a", a, b, c))
			}
		}
	}
	if len(found) < 30000 {
		t.Error("only", len(found), "trees")
	}
}
