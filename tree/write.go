package tree

import (
	"strings"

	"gridiron/api"
	"gridiron/chars"
)

// Write is the text of a tree, in which each space has the prefix that l gives it.
func Write(n api.Node, l []api.Prefix) (string, api.Errno) {
	if errno := Check(n); errno != api.OK {
		return "", errno
	}
	w := newWriter(l)
	if !mayStand(l) || !w.knows(&n) {
		return "", api.ErrSpace
	}
	w.out.WriteString("<?xml version=\"1.0\" encoding=\"UTF-8\"?>\n")
	w.tree(&n)
	return w.out.String(), api.OK
}

// mayStand tells whether these prefixes may stand for these spaces.
func mayStand(l []api.Prefix) bool {
	prefixes, spaces := map[string]struct{}{}, map[string]struct{}{}
	for _, p := range l {
		if !mayPrefix(p.Prefix) || !mayBeGiven(p.Space) {
			return false
		}
		prefixes[p.Prefix] = struct{}{}
		spaces[p.Space] = struct{}{}
	}
	return len(prefixes) == len(l) && len(spaces) == len(l)
}

func mayPrefix(prefix string) bool {
	return chars.Name(prefix) && !strings.HasPrefix(chars.Lower(prefix), "xml")
}

// mayBeGiven tells whether a prefix may be given to a space.
func mayBeGiven(space string) bool {
	switch space {
	case "", spaceOfXML, spaceOfXmlns:
		return false
	}
	return valid(space)
}

// writer puts the text of a tree together.
type writer struct {
	out      strings.Builder
	prefixes []api.Prefix
	places   map[string]int // of spaces among the prefixes
	open     []string       // names, as they are written, of elements that have begun and not ended, the innermost last
}

func newWriter(l []api.Prefix) *writer {
	w := &writer{prefixes: l, places: map[string]int{}}
	for i, p := range l {
		w.places[p.Space] = i
	}
	return w
}

// knows tells whether all names of a tree can be written.
func (w *writer) knows(n *api.Node) bool {
	var known bool
nodes:
	for _, node := range within(n) {
		for name := range names(node) {
			_, known = w.named(name)
			if !known {
				break nodes
			}
		}
	}
	return known
}

// named is a name as it is written, if it can be.
func (w *writer) named(name api.XName) (string, bool) {
	switch name.Space {
	case "":
		return name.Local, true
	case spaceOfXML:
		return "xml:" + name.Local, true
	}
	place, known := w.places[name.Space]
	if !known {
		return "", false
	}
	return w.prefixes[place].Prefix + ":" + name.Local, true
}

// tree writes a tree.
func (w *writer) tree(root *api.Node) {
	for deep, node := range within(root) {
		w.closeTo(deep)
		if !node.Elem {
			w.text(node.Text, false)
			continue
		}
		w.begin(node, deep == 0)
	}
	w.closeTo(0)
}

// closeTo writes the ends of all open elements but the outermost ones, as many as there are to be left.
func (w *writer) closeTo(left int) {
	for len(w.open) > left {
		last := len(w.open) - 1
		w.put("</", w.open[last], ">")
		w.open = w.open[:last]
	}
}

// begin writes the beginning of an element, which has ended with it, if it has no kids.
func (w *writer) begin(n *api.Node, root bool) {
	name, _ := w.named(n.Name)
	w.put("<", name)
	if root {
		for _, p := range w.prefixes {
			w.attr("xmlns:"+p.Prefix, p.Space)
		}
	}
	for _, a := range n.Attrs {
		own, _ := w.named(a.Name)
		w.attr(own, a.Value)
	}
	if len(n.Kids) == 0 {
		w.put("/>")
		return
	}
	w.put(">")
	w.open = append(w.open, name)
}

func (w *writer) attr(name, value string) {
	w.put(" ", name, "=\"")
	w.text(value, true)
	w.put("\"")
}

// text writes a text, in which signs are escaped, as in an attribute or not.
func (w *writer) text(text string, attr bool) {
	// that it is valid, Check has told
	escaped, _ := chars.Escape(text, attr)
	w.put(escaped)
}

func (w *writer) put(pieces ...string) {
	for _, piece := range pieces {
		w.out.WriteString(piece)
	}
}
