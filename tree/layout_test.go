package tree_test

import (
	"maps"
	"slices"
	"strconv"
	"strings"

	"gridiron/api"
)

// draws is a row of numbers that look drawn, the same in each run.
type draws uint64

func (d *draws) below(n int) int {
	*d = *d*6364136223846793005 + 1442695040888963407
	return int(uint64(*d) >> 33 % uint64(n))
}

func (d *draws) pick(from ...string) string {
	return from[d.below(len(from))]
}

func drawnSpace(d *draws) string {
	return d.pick("", "", "", "u", "u", "v", "http://x/é", "a b", "&<\"'>", "\t\n\r", xmlSpace)
}

func drawnName(d *draws) api.XName {
	return api.XName{Space: drawnSpace(d), Local: d.pick("a", "b", "é1", "x-y", "_", "n.", "A\u0300", "xml")}
}

func drawnText(d *draws) string {
	all := d.pick("", "t", "u")
	for range d.below(5) {
		all += d.pick("a", "bc", " ", "\n", "\t", "\r", "<", ">", "&", "\"", "'", "]]>", "]", "--", "?>", "é", "\U0001F600", "\ufeff", "&lt;", "<!--", "<![CDATA[")
	}
	return all
}

// drawnTree is an element that may be.
func drawnTree(d *draws, deep int) api.Node {
	n := api.Node{Elem: true, Name: drawnName(d)}
	if d.below(8) == 0 {
		n.Name.Local = "xmlns"
	}
	for range d.below(4) {
		name := drawnName(d)
		if name.Space != "" && d.below(8) == 0 {
			name.Local = "xmlns"
		}
		if !slices.ContainsFunc(n.Attrs, func(a api.XAttr) bool { return a.Name == name }) {
			n.Attrs = append(n.Attrs, api.XAttr{Name: name, Value: drawnText(d)})
		}
	}
	texted := false
	for range d.below(5) * min(deep, 1) {
		if said := drawnText(d); said != "" && !texted && d.below(2) == 0 {
			n.Kids = append(n.Kids, text(said))
			texted = true
			continue
		}
		n.Kids = append(n.Kids, drawnTree(d, deep-1))
		texted = false
	}
	return n
}

// spacesOf are the spaces for which a tree needs prefixes.
func spacesOf(n api.Node) []string {
	found := map[string]bool{}
	for _, v := range modelAll(n) {
		found[v.node.Name.Space] = true
		for _, a := range v.node.Attrs {
			found[a.Name.Space] = true
		}
	}
	delete(found, "")
	delete(found, xmlSpace)
	return slices.Sorted(maps.Keys(found))
}

// drawnPrefixes are prefixes for a tree, and some more, in a drawn order.
func drawnPrefixes(d *draws, n api.Node) []api.Prefix {
	var l []api.Prefix
	for i, space := range append(spacesOf(n), "more", "other")[:len(spacesOf(n))+d.below(3)] {
		l = append(l, api.Prefix{Prefix: d.pick("p", "é", "x", "u") + strconv.Itoa(i), Space: space})
	}
	for i := range l {
		k := d.below(i + 1)
		l[i], l[k] = l[k], l[i]
	}
	return l
}

// layouter puts a tree's document together in a drawn layout.
type layouter struct {
	d    *draws
	doc  strings.Builder
	made int // how many prefixes have been made
}

// laid is a tree as a document in a drawn layout.
func laid(d *draws, n api.Node) string {
	w := &layouter{d: d}
	w.put(d.pick("", "\ufeff"))
	w.put(d.pick("", "<?xml version='1.0'?>", "<?xml version=\"1.0\" encoding='utf-8' standalone = 'no' ?>\r\n"))
	w.misc(true)
	w.element(n, map[string]string{"xml": xmlSpace, "": ""})
	w.misc(true)
	return w.doc.String()
}

func (w *layouter) put(s string) {
	w.doc.WriteString(s)
}

func (w *layouter) maybe() bool {
	return w.d.below(2) == 0
}

func (w *layouter) space() {
	for w.maybe() {
		w.put(w.d.pick(" ", "\n", "\t", "\r", "\r\n"))
	}
}

// misc is what is no part of a tree.
func (w *layouter) misc(outside bool) {
	for w.maybe() {
		w.put(w.d.pick("<!---->", "<!-- a - b > ]]> <c> &x; <?p?> -->", "<!--\r\n-->", "<?p?>", "<?p q?r ??>", "<?xmlx <a>&--?>", "<?x \r\n?>"))
		if outside {
			w.space()
		}
	}
}

// declared are the prefixes that an element's beginning declares, so that all its names can be told.
func (w *layouter) declared(n api.Node, scope map[string]string) map[string]string {
	here := map[string]string{}
	if w.d.below(4) == 0 {
		here[w.d.pick("p", "q")] = w.d.pick("u", "v", "other")
	}
	if w.d.below(4) == 0 {
		here[""] = w.d.pick("u", n.Name.Space)
	}
	if here[""] == xmlSpace {
		delete(here, "")
	}
	inside := maps.Clone(scope)
	maps.Copy(inside, here)
	if n.Name.Space == "" && inside[""] != "" {
		here[""], inside[""] = "", ""
	}
	needed := []string{n.Name.Space}
	for _, a := range n.Attrs {
		needed = append(needed, a.Name.Space)
	}
	for _, space := range needed {
		if space != "" && len(prefixesOf(inside, space)) == 0 {
			w.made++
			p := "n" + strconv.Itoa(w.made)
			here[p], inside[p] = space, space
		}
	}
	return here
}

// prefixesOf are the prefixes that stand for a space, rising.
func prefixesOf(scope map[string]string, space string) []string {
	var all []string
	for p, s := range scope {
		if p != "" && s == space {
			all = append(all, p)
		}
	}
	slices.Sort(all)
	return all
}

// name is a name with one of its prefixes.
func (w *layouter) name(n api.XName, scope map[string]string, attr bool) string {
	if n.Space == "" || !attr && scope[""] == n.Space && w.maybe() {
		return n.Local
	}
	return w.d.pick(prefixesOf(scope, n.Space)...) + ":" + n.Local
}

func (w *layouter) element(n api.Node, scope map[string]string) {
	here := w.declared(n, scope)
	scope = maps.Clone(scope)
	maps.Copy(scope, here)
	name := w.name(n.Name, scope, false)
	w.put("<" + name)
	rest := slices.Sorted(maps.Keys(here))
	for _, a := range n.Attrs {
		for len(rest) > 0 && w.maybe() {
			w.declare(rest[0], here)
			rest = rest[1:]
		}
		w.attribute(w.name(a.Name, scope, true), a.Value)
	}
	for _, p := range rest {
		w.declare(p, here)
	}
	w.space()
	if len(n.Kids) == 0 && w.maybe() {
		w.put("/>")
		return
	}
	w.put(">")
	w.misc(false)
	for _, k := range n.Kids {
		if k.Elem {
			w.element(k, scope)
		} else {
			w.text(k.Text)
		}
		w.misc(false)
	}
	w.put("</" + name)
	w.space()
	w.put(">")
}

func (w *layouter) declare(prefix string, here map[string]string) {
	if prefix == "" {
		w.attribute("xmlns", here[prefix])
		return
	}
	w.attribute("xmlns:"+prefix, here[prefix])
}

func (w *layouter) attribute(name, value string) {
	quote := w.d.pick("\"", "'")
	w.put(w.d.pick(" ", "\t", "\n", "\r", "\r\n"))
	w.space()
	w.put(name)
	w.space()
	w.put("=")
	w.space()
	w.put(quote)
	for _, c := range value {
		if strings.ContainsRune("<&\t\n\r"+quote, c) || w.d.below(4) == 0 {
			w.put(w.reference(c))
			continue
		}
		w.put(string(c))
	}
	w.put(quote)
}

func (w *layouter) reference(c rune) string {
	if named := map[rune]string{'<': "&lt;", '>': "&gt;", '&': "&amp;", '"': "&quot;", '\'': "&apos;"}[c]; named != "" && w.maybe() {
		return named
	}
	if w.maybe() {
		return "&#x" + strconv.FormatInt(int64(c), 16) + ";"
	}
	return "&#" + strconv.Itoa(int(c)) + ";"
}

// text puts a text as texts, references and Cdatas, with what is none among them.
func (w *layouter) text(text string) {
	for _, c := range text {
		switch {
		case c != '\r' && w.d.below(4) == 0:
			w.put("<![CDATA[" + string(c) + "]]>")
		case strings.ContainsRune("<&>\r", c) || w.d.below(4) == 0:
			w.put(w.reference(c))
		default:
			w.put(string(c))
		}
		if w.d.below(8) == 0 {
			w.put("<![CDATA[]]>")
		}
		if w.d.below(4) == 0 {
			w.misc(false)
		}
	}
}
