package tree

import (
	"iter"
	"strings"

	"gridiron/api"
)

// within goes through a node and all nodes within it, a node ahead of its Kids, each with how deep it lies.
// It goes by a list of what is still to come, not by calling itself: nodes of any depth may be given.
// A node's Kids are looked at only when it has been told, so that whoever is told it may put others in their place.
func within(n *api.Node) iter.Seq2[int, *api.Node] {
	return func(yield func(int, *api.Node) bool) {
		if !yield(0, n) {
			return
		}
		rest := [][]api.Node{n.Kids} // at each depth the nodes that are not told yet
		for len(rest) > 0 {
			deep := len(rest)
			list := rest[deep-1]
			if len(list) == 0 {
				rest = rest[:deep-1]
				continue
			}
			rest[deep-1] = list[1:]
			if !yield(deep, &list[0]) {
				return
			}
			rest = append(rest, list[0].Kids)
		}
	}
}

// names goes through a node's name and those of its attributes.
func names(n *api.Node) iter.Seq[api.XName] {
	return func(yield func(api.XName) bool) {
		if !yield(n.Name) {
			return
		}
		for _, a := range n.Attrs {
			if !yield(a.Name) {
				return
			}
		}
	}
}

// copied is a node with lists of its own, and so all within it.
func copied(n api.Node) api.Node {
	for _, node := range within(&n) {
		node.Attrs = listCopy(node.Attrs)
		node.Kids = listCopy(node.Kids)
	}
	return n
}

func listCopy[T any](list []T) []T {
	return append([]T(nil), list...)
}

// apart tells each node within n as a copy of its own: what is done to one is not seen in those that are told behind it.
func apart(n *api.Node, yield func(int, api.Node) bool) {
walk:
	for deep, node := range within(n) {
		if !yield(deep, copied(*node)) {
			break walk
		}
	}
}

// together tells all nodes within n as parts of one copy.
func together(n *api.Node, yield func(int, api.Node) bool) {
	type telling struct {
		deep int
		node api.Node
	}
	own := copied(*n)
	var all []telling
	// all are found ahead of the first telling, since whoever is told them may change the copy
	for deep, node := range within(&own) {
		all = append(all, telling{deep, *node})
	}
	for _, t := range all {
		if !yield(t.deep, t.node) {
			return
		}
	}
}

// beyond tells whether copies of each node within n, with all that is within it, come to more than 2^31 - 1 bytes, which is all that a call is asked to answer: of nodes that lie deep within one another they would be as many as the square of their number.
// No tree that may be is held to be beyond: the limit is as many nodes as there may be, each within as many elements as there may be.
func beyond(n *api.Node) bool {
	nodes := 0
	for deep := range within(n) {
		nodes += deep + 1
	}
	return nodes > (api.MaxElems+1)*api.MaxNodes
}

// copier copies nodes with their texts.
// A space stands once in a document, but in many names of its tree: it is copied once.
type copier struct {
	spaces []string
	places map[string]int // of spaces among those that have been copied
}

func newCopier() *copier {
	return &copier{places: map[string]int{}}
}

// node is a copy that shares nothing with n.
func (c *copier) node(n api.Node) api.Node {
	own := copied(n)
	for _, node := range within(&own) {
		node.Text = strings.Clone(node.Text)
		node.Name = c.name(node.Name)
		for i, a := range node.Attrs {
			node.Attrs[i] = api.XAttr{Name: c.name(a.Name), Value: strings.Clone(a.Value)}
		}
	}
	return own
}

func (c *copier) name(n api.XName) api.XName {
	return api.XName{Space: c.space(n.Space), Local: strings.Clone(n.Local)}
}

func (c *copier) space(space string) string {
	place, known := c.places[space]
	if !known {
		place = len(c.spaces)
		own := strings.Clone(space)
		c.spaces = append(c.spaces, own)
		c.places[own] = place
	}
	return c.spaces[place]
}
