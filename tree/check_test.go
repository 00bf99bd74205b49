package tree_test

import (
	"slices"
	"strings"
	"testing"

	"gridiron/api"
	"gridiron/tree"
)

// spots are places for a node in trees that may be: deep within, ahead of others and behind them.
func spots(n api.Node) []api.Node {
	return []api.Node{
		element("r", n),
		element("r", element("b"), n, element("b")),
		element("u r", with(element("b", element("c", text("t"))), "x", "1"), element("d", n)),
		wrapped(element("r", text("t"), element("b", element("b"), n), text("t")), 20),
	}
}

// checkNode asks what Check and Write answer for a node deep within, and, if it is an element, for itself.
func checkNode(t *testing.T, n api.Node, want api.Errno) {
	t.Helper()
	all := spots(n)
	if n.Elem {
		all = append(all, n)
	}
	for _, n := range all {
		if errno := tree.Check(n); errno != want {
			t.Errorf("Check(%s): %d, want %d", shown(n), errno, want)
		}
		if s, errno := tree.Write(n, prefixes); errno != want || (s == "") != (want != api.OK) {
			t.Errorf("Write(%s): %q, %d, want %d", shown(n), s, errno, want)
		}
	}
}

var prefixes = []api.Prefix{{Prefix: "p", Space: "u"}, {Prefix: "q", Space: "v"}}

// P7.2: the chapter's tree, and others that may be.
func TestCheck(t *testing.T) {
	for _, n := range []api.Node{
		with(element("a", text("bd")), "x", "1"), element("a"), element("u a"), element(xmlSpace + " a"), element("xmlns"), element("u xmlns"), element("xml"), element("é-1.·"), element("_"), element("\U00010000"),
		with(element("a"), "x", ""), with(element("a"), "x", "1", "y", "1"), with(element("a"), "x", "1", "u x", "1", "v x", "2"), with(element("u a"), "u a", ""), with(element("a"), xmlSpace+" lang", "en"), with(element("a"), "u xmlns", "1"), with(element("a"), xmlSpace+" xmlns", "1"), with(element("a"), "xmlns1", "u"), with(element("a"), "XMLNS", "u", "xml", "v"),
		with(element("a"), "x", "\t\n\r\"'<>&\ufffd\U0010ffff"), element("a", text("\t\n\r\"'<>&]]>\ufffd\U0010ffff")), element("a", text(" ")), element("a", text("x"), element("b"), text("y")), element("a", element("a"), element("a")), element("a", text("x"), element("b", text("y")), element("c")), with(element("a"), "a", "a"),
		{Elem: true, Name: named("a"), Attrs: []api.XAttr{}, Kids: []api.Node{}}, element("a", api.Node{Text: "x", Attrs: []api.XAttr{}, Kids: []api.Node{}}),
	} {
		checkNode(t, n, api.OK)
	}
}

// P7.2: a root must be an element.
func TestCheckRoot(t *testing.T) {
	for _, n := range []api.Node{{}, text("a"), text(""), {Name: named("a")}, {Kids: []api.Node{element("a")}}, {Attrs: []api.XAttr{attr("x", "1")}}} {
		if errno := tree.Check(n); errno != api.ErrNode {
			t.Errorf("Check(%s): %d", shown(n), errno)
		}
		if s, errno := tree.Write(n, nil); s != "" || errno != api.ErrNode {
			t.Errorf("Write(%s): %q, %d", shown(n), s, errno)
		}
	}
}

// P7.2: texts that are empty, that are not valid, that have what elements have.
func TestCheckTexts(t *testing.T) {
	for _, n := range []api.Node{
		{}, text(""), text("\x00"), text("a\x00"), text("\xff"), text("a\xc3"), text("\ufffe"), text("\xed\xa0\x80"), text("\x1f"),
		{Text: "a", Name: named("a")}, {Text: "a", Name: named("u ")}, {Text: "a", Name: named("u a")}, {Text: "a", Attrs: []api.XAttr{attr("x", "")}}, {Text: "a", Attrs: []api.XAttr{{}}}, {Text: "a", Kids: []api.Node{element("b")}}, {Text: "a", Kids: []api.Node{text("b")}}, {Name: named("a")}, {Kids: []api.Node{element("a")}},
	} {
		checkNode(t, n, api.ErrNode)
	}
	for _, kids := range [][]api.Node{{text("a"), text("b")}, {text("a"), text("a")}, {element("b"), text("a"), text("b")}, {text("a"), element("b"), text("a"), text("b")}, {text("a"), text("b"), element("c")}, {text("a"), text("b"), text("c")}} {
		checkNode(t, element("a", kids...), api.ErrNode)
	}
}

// P7.2: elements with a text of their own, with names, spaces and values that may not be.
func TestCheckElements(t *testing.T) {
	for _, n := range []api.Node{
		{Elem: true}, {Elem: true, Text: "a"}, {Elem: true, Text: "a", Name: named("a")}, {Elem: true, Text: "a", Name: named("a"), Kids: []api.Node{element("b")}},
		element(""), element("1"), element("-a"), element("a:b"), element(":a"), element("a:"), element("a<"), {Elem: true, Name: api.XName{Local: "a b"}}, element("a\x00"), element("a\xff"), element("\xc3"), element("×"), element("u "), element("u 1"), element("u a:b"),
		{Elem: true, Name: api.XName{Local: "a", Space: "\x00"}}, {Elem: true, Name: api.XName{Local: "a", Space: "u\xff"}}, {Elem: true, Name: api.XName{Local: "a", Space: "\ufffe"}}, element(xmlnsSpace + " a"), element(xmlnsSpace + " xmlns"),
	} {
		checkNode(t, n, api.ErrNode)
	}
}

// P7.2: attributes with names, spaces and values that may not be, and that stand twice.
func TestCheckAttributes(t *testing.T) {
	for _, attrs := range [][]string{
		{"", "1"}, {"1", "1"}, {"x:y", "1"}, {":x", "1"}, {"x:", "1"}, {"x<", "1"}, {"x\xff", "1"}, {"u ", "1"}, {"u 1", "1"}, {"u x:y", "1"},
		{"x", "\x00"}, {"x", "a\xff"}, {"x", "\ufffe"}, {"x", "\v"}, {"\x00 x", "1"}, {"u\xff x", "1"}, {"\uffff x", "1"},
		{"xmlns", "u"}, {"xmlns", ""}, {xmlnsSpace + " x", "u"}, {xmlnsSpace + " xmlns", "u"}, {xmlnsSpace + " p", "u"},
		{"x", "1", "x", "1"}, {"x", "1", "x", "2"}, {"u x", "1", "u x", "2"}, {"x", "1", "y", "2", "x", "3"}, {"u x", "1", "v x", "2", "u x", "3"}, {xmlSpace + " x", "1", xmlSpace + " x", "1"},
	} {
		checkNode(t, with(element("a"), attrs...), api.ErrNode)
		checkNode(t, with(element("a", text("t")), append([]string{"y1", "", "u y2", ""}, attrs...)...), api.ErrNode)
		checkNode(t, with(element("u a", element("b")), append(attrs, "y3", "", "u y4", "")...), api.ErrNode)
	}
}

// P7.2: attributes in any number may not stand twice, wherever they stand.
func TestCheckManyAttributes(t *testing.T) {
	n := element("a")
	for i := range 3000 {
		n.Attrs = append(n.Attrs, attr("x"+strings.Repeat("x", i%60)+strings.Repeat("y", i/60), ""))
	}
	if errno := tree.Check(n); errno != api.OK {
		t.Error("many attributes:", errno)
	}
	for _, i := range []int{0, 1, 1499, 2998} {
		twice := n
		twice.Attrs = append(slices.Clone(n.Attrs), n.Attrs[i])
		if errno := tree.Check(twice); errno != api.ErrNode {
			t.Errorf("number %d twice: %d", i, errno)
		}
	}
}

// P7.2: MaxElems elements within one another, and one more.
func TestCheckDeep(t *testing.T) {
	const most = api.MaxElems
	for _, c := range []struct {
		n    api.Node
		want api.Errno
	}{
		{wrapped(element("a"), most-1), api.OK}, {wrapped(element("a", text("t")), most-1), api.OK}, {wrapped(element("a"), most), api.ErrDeep}, {wrapped(element("a", text("t")), most), api.ErrDeep}, {wrapped(element("a"), most+1), api.ErrDeep}, {wrapped(element("a"), 1<<16-1), api.ErrDeep},
		{element("r", wrapped(element("a"), most-2), text("t"), wrapped(element("a"), most-2)), api.OK}, {element("r", wrapped(element("a"), most-2), wrapped(element("a"), most-1)), api.ErrDeep}, {element("r", wrapped(element("a"), most-1), element("b")), api.ErrDeep}, {wrapped(element("a", element("b"), element("b")), most-1), api.ErrDeep},
		{wrapped(text("t"), most), api.OK}, {wrapped(text("t"), most+1), api.ErrDeep}, {wrapped(text(""), most), api.ErrNode}, {wrapped(text(""), most+1), api.ErrNode}, {wrapped(element("1"), most+5), api.ErrNode}, {element("r", wrapped(element("a"), most), element("1")), api.ErrNode}, {element("1", wrapped(element("a"), most)), api.ErrNode}, {wrapped(element("1"), 1<<16-1), api.ErrNode},
	} {
		if errno := tree.Check(c.n); errno != c.want {
			t.Errorf("Check of %d nodes: %d, want %d", tree.Count(c.n), errno, c.want)
		}
		if s, errno := tree.Write(c.n, nil); errno != c.want || (s == "") != (c.want != api.OK) {
			t.Errorf("Write of %d nodes: %d bytes, %d, want %d", tree.Count(c.n), len(s), errno, c.want)
		}
	}
}

// wide is an element with n kids, elements and texts in turn.
func wide(n int) api.Node {
	r := element("r")
	for i := range n {
		if i%2 == 0 {
			r.Kids = append(r.Kids, element("b"))
			continue
		}
		r.Kids = append(r.Kids, text("t"))
	}
	return r
}

// P7.2: MaxNodes nodes, and one more; what may not be comes ahead of that, and what is too deep, too.
func TestCheckNodes(t *testing.T) {
	t.Parallel()
	const most = api.MaxNodes
	more := func(n int, others ...api.Node) api.Node {
		r := wide(n - 1)
		r.Kids = append(r.Kids, others...)
		return r
	}
	for i, c := range []struct {
		n    api.Node
		want api.Errno
	}{
		{wide(most - 1), api.OK}, {wide(most), api.ErrNodes}, {wide(most - 2), api.OK}, {wide(most + 1), api.ErrNodes}, {element("s", wide(most-2)), api.OK}, {element("s", wide(most-1)), api.ErrNodes}, {element("s", wide(most/2), wide(most/2-2)), api.ErrNodes}, {element("s", wide(most/2), wide(most/2-3)), api.OK},
		{more(most, element("1")), api.ErrNode}, {more(most+5, element("b", text(""))), api.ErrNode}, {more(most, element("b", element("c", wrapped(element("a"), api.MaxElems)))), api.ErrDeep}, {more(most, wrapped(element("a"), api.MaxElems), element("a", element(""))), api.ErrNode}, {element("r", element("1"), wide(most)), api.ErrNode}, {element("r", wrapped(element("a"), api.MaxElems), wide(most)), api.ErrDeep},
	} {
		if errno := tree.Check(c.n); errno != c.want {
			t.Errorf("tree %d, %d nodes: %d, want %d", i, tree.Count(c.n), errno, c.want)
		}
		if s, errno := tree.Write(c.n, []api.Prefix{{}}); s != "" || errno != c.want && (c.want != api.OK || errno != api.ErrSpace) {
			t.Errorf("tree %d, written: %d, want %d", i, errno, c.want)
		}
	}
}
