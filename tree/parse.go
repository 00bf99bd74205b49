package tree

import (
	"gridiron/api"
	"gridiron/markup"
)

// Parse is the tree of a document; or none, the place of what is wrong first, and what it is.
func Parse(text string) (api.Node, int, api.Errno) {
	b := []byte(text)
	g, at, errno := grown(b)
	if errno == api.OK {
		// whether tokens have ended because something is wrong, the tokens themselves don't say
		_, at, errno = markup.Tokens(b)
	}
	if errno != api.OK {
		return api.Node{}, at, errno
	}
	return g.root, 0, api.OK
}

// grown is what the tokens of a document make, up to the first one that makes too much.
func grown(b []byte) (g growth, at int, errno api.Errno) {
tokens:
	for _, token := range markup.All(b) {
		errno = g.take(token)
		if errno != api.OK {
			at = token.At
			break tokens
		}
	}
	return g, at, errno
}

// growth is a tree as far as it has been read.
type growth struct {
	open  []api.Node // elements that have begun and not ended, the innermost last
	nodes int        // how many have begun
	root  api.Node   // when it has ended
}

// take puts a token to the tree.
func (g *growth) take(token api.Token) api.Errno {
	switch token.Kind {
	case api.TokStart:
		if len(g.open) == api.MaxElems {
			return api.ErrDeep
		}
		g.open = append(g.open, element(token))
		return g.count()
	case api.TokText:
		g.add(api.Node{Text: token.Text})
		return g.count()
	}
	g.end()
	return api.OK
}

// count counts a node more.
func (g *growth) count() api.Errno {
	g.nodes++
	if g.nodes > api.MaxNodes {
		return api.ErrNodes
	}
	return api.OK
}

// element is what the beginning of one says.
func element(token api.Token) api.Node {
	n := api.Node{Elem: true, Name: api.XName{Space: token.Space, Local: token.Local}}
	for _, a := range token.Attrs {
		n.Attrs = append(n.Attrs, api.XAttr{Name: api.XName{Space: a.Space, Local: a.Local}, Value: a.Value})
	}
	return n
}

// add puts a node to the innermost element's kids.
func (g *growth) add(n api.Node) {
	parent := &g.open[len(g.open)-1]
	parent.Kids = append(parent.Kids, n)
}

// end ends the innermost element.
func (g *growth) end() {
	n := g.open[len(g.open)-1]
	g.open = g.open[:len(g.open)-1]
	if len(g.open) == 0 {
		g.root = n
		return
	}
	g.add(n)
}
