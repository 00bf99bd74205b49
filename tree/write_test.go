package tree_test

import (
	"strings"
	"testing"

	"gridiron/api"
	"gridiron/tree"
)

// checkWrite asks what Write answers.
func checkWrite(t *testing.T, n api.Node, l []api.Prefix, want string) {
	t.Helper()
	s, errno := tree.Write(n, l)
	if errno != api.OK || s != head+want {
		t.Errorf("Write(%s, %q): %q, %d, want %q", shown(n), l, s, errno, want)
	}
	if back, at, errno := tree.Parse(s); errno != api.OK || at != 0 || !alike(back, n) {
		t.Errorf("Parse(%q): %s, %d, %d, want %s", s, shown(back), at, errno, shown(n))
	}
}

// P7.2, P7.4: the chapter's example, and elements in all their forms.
func TestWrite(t *testing.T) {
	for want, n := range map[string]api.Node{
		`<a x="1">bd</a>`: with(element("a", text("bd")), "x", "1"), `<a/>`: element("a"), `<a x=""/>`: with(element("a"), "x", ""), `<a y="1" x="2"/>`: with(element("a"), "y", "1", "x", "2"), `<a><b/></a>`: element("a", element("b")), `<a>x<b>y</b>z</a>`: element("a", text("x"), element("b", text("y")), text("z")), `<a><b/><b/></a>`: element("a", element("b"), element("b")),
		`<a><b><c/></b><d><e><f>t</f></e></d>u</a>`: element("a", element("b", element("c")), element("d", element("e", element("f", text("t")))), text("u")), `<a> </a>`: element("a", text(" ")), `<a><a><a/></a></a>`: element("a", element("a", element("a"))), `<é ü="ö">ä</é>`: with(element("é", text("ä")), "ü", "ö"), `<a><b x="1" y="2"><c z="3"/></b></a>`: element("a", with(element("b", with(element("c"), "z", "3")), "x", "1", "y", "2")),
	} {
		checkWrite(t, n, nil, want)
		checkWrite(t, n, []api.Prefix{}, want)
	}
}

// P7.2: prefixes stand at the root, in their order, ahead of its attributes; whether they are asked for or not.
func TestWritePrefixes(t *testing.T) {
	p, q := api.Prefix{Prefix: "p", Space: "u"}, api.Prefix{Prefix: "q", Space: "v"}
	checkWrite(t, element("a"), []api.Prefix{p}, `<a xmlns:p="u"/>`)
	checkWrite(t, element("a"), []api.Prefix{q, p}, `<a xmlns:q="v" xmlns:p="u"/>`)
	checkWrite(t, element("u a"), []api.Prefix{p}, `<p:a xmlns:p="u"/>`)
	checkWrite(t, element("v a"), []api.Prefix{p, q}, `<q:a xmlns:p="u" xmlns:q="v"/>`)
	checkWrite(t, with(element("u a", element("v b", text("t")), element("u c"), element("d")), "v x", "1", "x", "2"), []api.Prefix{p, q}, `<p:a xmlns:p="u" xmlns:q="v" q:x="1" x="2"><q:b>t</q:b><p:c/><d/></p:a>`)
	checkWrite(t, element("a", with(element("b"), "u xmlns", "1", "v y", "2")), []api.Prefix{p, q}, `<a xmlns:p="u" xmlns:q="v"><b p:xmlns="1" q:y="2"/></a>`)
	checkWrite(t, with(element(xmlSpace+" a", with(element("b"), xmlSpace+" lang", "en")), xmlSpace+" x", "1"), nil, `<xml:a xml:x="1"><b xml:lang="en"/></xml:a>`)
	checkWrite(t, with(element("u a"), xmlSpace+" space", "preserve"), []api.Prefix{p}, `<p:a xmlns:p="u" xml:space="preserve"/>`)
	// a prefix and a space may have one another's letters
	checkWrite(t, element("p a", element("q b")), []api.Prefix{{Prefix: "q", Space: "p"}, {Prefix: "p", Space: "q"}}, `<q:a xmlns:q="p" xmlns:p="q"><p:b/></q:a>`)
	checkWrite(t, element("a"), []api.Prefix{{Prefix: "é-1.", Space: "u"}, {Prefix: "P", Space: "U"}, {Prefix: "p", Space: "u "}, {Prefix: "xm", Space: " "}, {Prefix: "x-ml", Space: "xml"}, {Prefix: "_xml", Space: "xmlns"}, {Prefix: "ns", Space: xmlSpace + "/"}}, `<a xmlns:é-1.="u" xmlns:P="U" xmlns:p="u " xmlns:xm=" " xmlns:x-ml="xml" xmlns:_xml="xmlns" xmlns:ns="`+xmlSpace+`/"/>`)
}

// P7.2, P7.4: what is escaped in values, in spaces and in texts.
func TestWriteEscaped(t *testing.T) {
	const all = "a&b<c>d\re\"f\tg\nh'i]]>j\r\nk é\ufffd\U0010ffff&amp;"
	const asText = "a&amp;b&lt;c&gt;d&#13;e\"f\tg\nh'i]]&gt;j&#13;\nk é\ufffd\U0010ffff&amp;amp;"
	const asValue = "a&amp;b&lt;c&gt;d&#13;e&quot;f&#9;g&#10;h'i]]&gt;j&#13;&#10;k é\ufffd\U0010ffff&amp;amp;"
	checkWrite(t, element("a", text(all)), nil, "<a>"+asText+"</a>")
	checkWrite(t, with(element("a"), "x", all), nil, "<a x=\""+asValue+"\"/>")
	checkWrite(t, with(element("a", with(element("b", text(all)), "x", all), text(all)), "x", all), nil, "<a x=\""+asValue+"\"><b x=\""+asValue+"\">"+asText+"</b>"+asText+"</a>")
	n := api.Node{Elem: true, Name: api.XName{Space: all, Local: "a"}, Attrs: []api.XAttr{{Name: api.XName{Space: all, Local: "x"}, Value: "1"}}}
	checkWrite(t, n, []api.Prefix{{Prefix: "p", Space: all}}, "<p:a xmlns:p=\""+asValue+"\" p:x=\"1\"/>")
	for _, c := range "\t\n\r &<>\"'" {
		s := string(c)
		checkWrite(t, with(element("a", text(s)), "x", s), []api.Prefix{{Prefix: "p", Space: s}}, "<a xmlns:p=\""+modelEscape(s, true)+"\" x=\""+modelEscape(s, true)+"\">"+modelEscape(s, false)+"</a>")
	}
}

// P7.2: prefixes and spaces that may not be given, by themselves and behind others.
func TestWriteWrongPrefixes(t *testing.T) {
	for _, wrong := range []api.Prefix{
		{}, {Prefix: "", Space: "w"}, {Prefix: "1", Space: "w"}, {Prefix: "r:", Space: "w"}, {Prefix: ":r", Space: "w"}, {Prefix: "r:s", Space: "w"}, {Prefix: "r s", Space: "w"}, {Prefix: " ", Space: "w"}, {Prefix: "r\x00", Space: "w"}, {Prefix: "\xff", Space: "w"}, {Prefix: "r\"", Space: "w"},
		{Prefix: "xml", Space: "w"}, {Prefix: "xmlns", Space: "w"}, {Prefix: "XML", Space: "w"}, {Prefix: "Xml", Space: "w"}, {Prefix: "xMl1", Space: "w"}, {Prefix: "xmL-", Space: "w"}, {Prefix: "xmlé", Space: "w"}, {Prefix: "xml", Space: xmlSpace}, {Prefix: "xmlns", Space: xmlnsSpace},
		{Prefix: "r", Space: ""}, {Prefix: "r", Space: "\x00"}, {Prefix: "r", Space: "w\xff"}, {Prefix: "r", Space: "\ufffe"}, {Prefix: "r", Space: "\xed\xa0\x80"}, {Prefix: "r", Space: xmlSpace}, {Prefix: "r", Space: xmlnsSpace},
		{Prefix: "p", Space: "w"}, {Prefix: "r", Space: "u"}, {Prefix: "p", Space: "u"}, {Prefix: "q", Space: "w"}, {Prefix: "r", Space: "v"}, {Prefix: "p", Space: "v"},
	} {
		good := []api.Prefix{{Prefix: "p", Space: "u"}, {Prefix: "q", Space: "v"}}
		for _, l := range [][]api.Prefix{{good[0], good[1], wrong}, {wrong, good[0], good[1]}, {good[0], wrong, good[1]}} {
			for _, n := range []api.Node{element("a"), element("u a"), element("a", with(element("v b"), "u x", ""))} {
				if s, errno := tree.Write(n, l); s != "" || errno != api.ErrSpace {
					t.Errorf("Write(%s, %q): %q, %d", shown(n), l, s, errno)
				}
			}
			// what Check says comes ahead of that
			if s, errno := tree.Write(element("a", text("")), l); s != "" || errno != api.ErrNode {
				t.Errorf("Write of what may not be, with %q: %q, %d", l, s, errno)
			}
			if s, errno := tree.Write(wrapped(element("a"), api.MaxElems), l); s != "" || errno != api.ErrDeep {
				t.Errorf("Write of what is too deep, with %q: %q, %d", l, s, errno)
			}
		}
	}
}

// P7.2: a name whose space has no prefix, of elements and attributes, wherever they stand.
func TestWriteWithoutPrefix(t *testing.T) {
	l := []api.Prefix{{Prefix: "p", Space: "u"}, {Prefix: "w", Space: "v"}}
	for _, space := range []string{"w", "U", "u ", "p", "xml", "xmlns", xmlSpace + "/", xmlnsSpace[:len(xmlnsSpace)-1], "\t"} {
		n := api.XName{Space: space, Local: "n"}
		e := api.Node{Elem: true, Name: n}
		a := api.Node{Elem: true, Name: named("a"), Attrs: []api.XAttr{attr("u x", ""), {Name: n}, attr("y", "")}}
		for _, n := range append(append(spots(e), spots(a)...), e, a) {
			if s, errno := tree.Write(n, l); s != "" || errno != api.ErrSpace {
				t.Errorf("Write(%s): %q, %d", shown(n), s, errno)
			}
		}
	}
	for _, n := range append(spots(element("u a")), element("u a")) {
		for _, l := range [][]api.Prefix{nil, {{Prefix: "u", Space: "v"}}} {
			if s, errno := tree.Write(n, l); s != "" || errno != api.ErrSpace {
				t.Errorf("Write(%s, %q): %q, %d", shown(n), l, s, errno)
			}
		}
	}
}

// P7.2: Check's error comes ahead of a name without a prefix.
func TestWriteOrder(t *testing.T) {
	for _, n := range []api.Node{element("u a", text("")), element("u a", element("b", element("1"))), element("1", element("u a"))} {
		if s, errno := tree.Write(n, nil); s != "" || errno != api.ErrNode {
			t.Errorf("Write(%s): %q, %d", shown(n), s, errno)
		}
	}
	if s, errno := tree.Write(wrapped(element("u a"), api.MaxElems), nil); s != "" || errno != api.ErrDeep {
		t.Errorf("Write of what is too deep: %q, %d", s, errno)
	}
	if s, errno := tree.Write(element("u a", wide(api.MaxNodes)), nil); s != "" || errno != api.ErrNodes {
		t.Errorf("Write of too many nodes: %q, %d", s, errno)
	}
}

// P7.4: there and back at the limits; beyond those of chapter 6 it is ErrLong.
func TestWriteLimits(t *testing.T) {
	t.Parallel()
	for _, n := range []api.Node{wide(api.MaxNodes - 1), wrapped(element("a", text("t")), api.MaxElems-1)} {
		s, errno := tree.Write(n, nil)
		if errno != api.OK {
			t.Fatal("Write:", errno)
		}
		if back, at, errno := tree.Parse(s); errno != api.OK || at != 0 || !tree.Same(back, n) {
			t.Error("there and back:", at, errno)
		}
	}
	many := element("a")
	for i := range api.MaxAttrs {
		many.Attrs = append(many.Attrs, attr("x"+strings.Repeat("x", i), ""))
	}
	s, _ := tree.Write(many, nil)
	if back, at, errno := tree.Parse(s); errno != api.OK || at != 0 || !alike(back, many) {
		t.Error("MaxAttrs attributes:", at, errno)
	}
	s, errno := tree.Write(many, []api.Prefix{{Prefix: "p", Space: "u"}})
	if _, _, back := tree.Parse(s); errno != api.OK || back != api.ErrLong {
		t.Error("MaxAttrs attributes and a prefix:", errno, back)
	}
	long := element("a", text(strings.Repeat("t", api.MaxMarkup-len(head+"<a></a>"))))
	s, _ = tree.Write(long, nil)
	if back, at, errno := tree.Parse(s); len(s) != api.MaxMarkup || errno != api.OK || at != 0 || !tree.Same(back, long) {
		t.Error("MaxMarkup bytes:", at, errno)
	}
	long.Kids[0].Text += "t"
	s, errno = tree.Write(long, nil)
	if _, at, back := tree.Parse(s); errno != api.OK || at != api.MaxMarkup || back != api.ErrLong {
		t.Error("MaxMarkup bytes and one:", errno, at, back)
	}
}

// P7.2: prefixes in any number.
func TestWriteManyPrefixes(t *testing.T) {
	t.Parallel()
	var l []api.Prefix
	n := element("a")
	var want strings.Builder
	for i := range 20000 {
		letters := ""
		for k := i; k > 0; k /= 16 {
			letters += "abcdefghijklmnop"[k%16 : k%16+1]
		}
		l = append(l, api.Prefix{Prefix: "p" + letters, Space: "u" + letters})
		n.Kids = append(n.Kids, element("u"+letters+" b"))
		want.WriteString("<p" + letters + ":b/>")
	}
	s, errno := tree.Write(n, l)
	if errno != api.OK || !strings.HasSuffix(s, ">"+want.String()+"</a>") {
		t.Errorf("%d prefixes: %d bytes, %d", len(l), len(s), errno)
	}
	if s, errno := tree.Write(n, append(l, l[1])); s != "" || errno != api.ErrSpace {
		t.Error("one twice:", errno)
	}
	if s, errno := tree.Write(n, l[1:]); s != "" || errno != api.ErrSpace {
		t.Error("one lacking:", errno)
	}
}
