package tree_test

import (
	"slices"
	"strconv"
	"strings"

	"gridiron/api"
	"gridiron/chars"
	"gridiron/markup"
)

const (
	xmlSpace   = "http://www.w3.org/XML/1998/namespace"
	xmlnsSpace = "http://www.w3.org/2000/xmlns/"
	head       = "<?xml version=\"1.0\" encoding=\"UTF-8\"?>\n"
)

// named is a name; its space, if it has one, stands ahead of a blank.
func named(name string) api.XName {
	space, local, spaced := strings.Cut(name, " ")
	if !spaced {
		return api.XName{Local: name}
	}
	return api.XName{Space: space, Local: local}
}

// element is an element with a name and kids.
func element(name string, kids ...api.Node) api.Node {
	return api.Node{Elem: true, Name: named(name), Kids: kids}
}

// text is a text.
func text(s string) api.Node {
	return api.Node{Text: s}
}

// attr is an attribute.
func attr(name, value string) api.XAttr {
	return api.XAttr{Name: named(name), Value: value}
}

// with is an element with attributes, too, whose names and values stand in turn.
func with(n api.Node, attrs ...string) api.Node {
	for i := 0; i < len(attrs); i += 2 {
		n.Attrs = append(n.Attrs, attr(attrs[i], attrs[i+1]))
	}
	return n
}

// wrapped is a node within elements, one within the other.
func wrapped(n api.Node, times int) api.Node {
	for range times {
		n = element("w", n)
	}
	return n
}

// shown is a node as a text that no other one has.
func shown(n api.Node) string {
	var b strings.Builder
	show(&b, n)
	return b.String()
}

func show(b *strings.Builder, n api.Node) {
	b.WriteString(strconv.FormatBool(n.Elem) + strconv.Quote(n.Text) + shownName(n.Name) + "[")
	for _, a := range n.Attrs {
		b.WriteString(shownName(a.Name) + strconv.Quote(a.Value))
	}
	b.WriteString("](")
	for _, k := range n.Kids {
		show(b, k)
	}
	b.WriteString(")")
}

func shownName(n api.XName) string {
	return strconv.Quote(n.Space) + strconv.Quote(n.Local)
}

// alike tells whether two nodes are the same in each field.
func alike(a, b api.Node) bool {
	return shown(a) == shown(b)
}

// visited is a node and how deep it lies.
type visited struct {
	deep int
	node api.Node
}

// modelAll is n and all nodes within it, as All must tell them.
func modelAll(n api.Node) []visited {
	all := []visited{{0, n}}
	for _, k := range n.Kids {
		for _, v := range modelAll(k) {
			all = append(all, visited{v.deep + 1, v.node})
		}
	}
	return all
}

// modelText is what Text must answer.
func modelText(n api.Node) string {
	if !n.Elem {
		return n.Text
	}
	said := ""
	for _, v := range modelAll(n) {
		if !v.node.Elem {
			said += v.node.Text
		}
	}
	return said
}

func isValid(s string) bool {
	_, ok := chars.Valid(s)
	return ok
}

// modelMayBe tells of a node, but for its kids', whether it may be.
func modelMayBe(n api.Node) bool {
	if !n.Elem {
		return n.Text != "" && isValid(n.Text) && alike(n, text(n.Text))
	}
	if n.Text != "" {
		return false
	}
	all := []api.XName{n.Name}
	for _, a := range n.Attrs {
		if slices.Contains(all[1:], a.Name) || !isValid(a.Value) || a.Name.Space+"|"+a.Name.Local == "|xmlns" {
			return false
		}
		all = append(all, a.Name)
	}
	for _, name := range all {
		if !chars.Name(name.Local) || !isValid(name.Space) || name.Space == xmlnsSpace {
			return false
		}
	}
	beside := false
	for _, k := range n.Kids {
		if beside && !k.Elem {
			return false
		}
		beside = !k.Elem
	}
	return true
}

// modelCheck is what Check must answer.
func modelCheck(n api.Node) api.Errno {
	all := modelAll(n)
	errno := api.OK
	if len(all) > api.MaxNodes {
		errno = api.ErrNodes
	}
	for _, v := range all {
		if v.node.Elem && v.deep+1 > api.MaxElems {
			errno = api.ErrDeep
		}
	}
	for _, v := range all {
		if !modelMayBe(v.node) {
			errno = api.ErrNode
		}
	}
	if !n.Elem {
		errno = api.ErrNode
	}
	return errno
}

// modelEscape is a text as it is written.
func modelEscape(s string, inAttr bool) string {
	pairs := []string{"&", "&amp;", "<", "&lt;", ">", "&gt;", "\r", "&#13;"}
	if inAttr {
		pairs = append(pairs, "\"", "&quot;", "\t", "&#9;", "\n", "&#10;")
	}
	return strings.NewReplacer(pairs...).Replace(s)
}

// modelPrefixes tells whether prefixes may be.
func modelPrefixes(l []api.Prefix) bool {
	for i, p := range l {
		if !chars.Name(p.Prefix) || len(p.Prefix) >= 3 && strings.EqualFold(p.Prefix[:3], "xml") {
			return false
		}
		if p.Space == "" || !isValid(p.Space) || p.Space == xmlSpace || p.Space == xmlnsSpace {
			return false
		}
		for _, q := range l[:i] {
			if p.Prefix == q.Prefix || p.Space == q.Space {
				return false
			}
		}
	}
	return true
}

// modelName is a name as it is written, and whether it can be.
func modelName(n api.XName, l []api.Prefix) (string, bool) {
	if n.Space == "" {
		return n.Local, true
	}
	for _, p := range append(slices.Clone(l), api.Prefix{Prefix: "xml", Space: xmlSpace}) {
		if p.Space == n.Space {
			return p.Prefix + ":" + n.Local, true
		}
	}
	return "", false
}

// modelWrite is what Write must answer.
func modelWrite(n api.Node, l []api.Prefix) (string, api.Errno) {
	if errno := modelCheck(n); errno != api.OK {
		return "", errno
	}
	if !modelPrefixes(l) {
		return "", api.ErrSpace
	}
	declared := ""
	for _, p := range l {
		declared += " xmlns:" + p.Prefix + "=\"" + modelEscape(p.Space, true) + "\""
	}
	said, ok := modelNode(n, l, declared)
	if !ok {
		return "", api.ErrSpace
	}
	return head + said, api.OK
}

// modelNode is a node as it is written, with what is declared in its beginning; and whether it can be.
func modelNode(n api.Node, l []api.Prefix, declared string) (string, bool) {
	if !n.Elem {
		return modelEscape(n.Text, false), true
	}
	name, ok := modelName(n.Name, l)
	said := "<" + name + declared
	for _, a := range n.Attrs {
		own, can := modelName(a.Name, l)
		said += " " + own + "=\"" + modelEscape(a.Value, true) + "\""
		ok = ok && can
	}
	if len(n.Kids) == 0 {
		return said + "/>", ok
	}
	said += ">"
	for _, k := range n.Kids {
		inside, can := modelNode(k, l, "")
		said += inside
		ok = ok && can
	}
	return said + "</" + name + ">", ok
}

// modelParse is what Parse must answer, of a document within the limits of trees.
func modelParse(doc string) (api.Node, int, api.Errno) {
	tokens, at, errno := markup.Tokens([]byte(doc))
	if errno != api.OK {
		return api.Node{}, at, errno
	}
	n, _ := modelTree(tokens)
	return n, 0, api.OK
}

// modelTree is the node at whose token the tokens begin, and the tokens behind it.
func modelTree(tokens []api.Token) (api.Node, []api.Token) {
	first, rest := tokens[0], tokens[1:]
	if first.Kind == api.TokText {
		return text(first.Text), rest
	}
	n := api.Node{Elem: true, Name: api.XName{Space: first.Space, Local: first.Local}}
	for _, a := range first.Attrs {
		n.Attrs = append(n.Attrs, api.XAttr{Name: api.XName{Space: a.Space, Local: a.Local}, Value: a.Value})
	}
	for rest[0].Kind != api.TokEnd {
		var k api.Node
		k, rest = modelTree(rest)
		n.Kids = append(n.Kids, k)
	}
	return n, rest[1:]
}
