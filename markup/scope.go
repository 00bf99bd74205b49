package markup

import (
	"slices"

	"gridiron/api"
)

const (
	spaceOfXML   = "http://www.w3.org/XML/1998/namespace"
	spaceOfXmlns = "http://www.w3.org/2000/xmlns/"
)

// attr is an attribute as it stands in a beginning.
type attr struct {
	at    int
	name  name
	value string
}

// declares is the prefix that an attribute declares, "" for what has none; and whether it declares one at all.
func (a attr) declares() (string, bool) {
	switch {
	case a.name.prefix == "xmlns":
		return a.name.own, true
	case a.name.prefix == "" && a.name.own == "xmlns":
		return "", true
	}
	return "", false
}

// mayDeclare tells whether a prefix may stand for a name space.
func mayDeclare(prefix, space string) bool {
	switch {
	case prefix == "xmlns", space == spaceOfXmlns:
		return false
	case prefix != "" && space == "":
		return false
	}
	return (prefix == "xml") == (space == spaceOfXML)
}

// scope knows which prefixes are declared.
// Name spaces have numbers, 0 for none: they may be long, so that they are held against each other only where they are declared.
type scope struct {
	spaces   []string       // by their numbers
	numbers  map[string]int // of name spaces
	declared []declaration  // those that hold, the innermost last
	latest   map[string]int // of a prefix: how many are declared up to the one that holds, or 0
}

type declaration struct {
	prefix string
	space  int
	outer  int // what latest was of this prefix
}

func newScope() scope {
	s := scope{spaces: []string{""}, numbers: map[string]int{"": 0}, latest: map[string]int{}}
	s.declare("xml", spaceOfXML)
	return s
}

// declare lets a prefix stand for a name space from now on.
func (s *scope) declare(prefix, space string) {
	number, known := s.numbers[space]
	if !known {
		number = len(s.spaces)
		s.spaces = append(s.spaces, space)
		s.numbers[space] = number
	}
	s.declared = append(s.declared, declaration{prefix, number, s.latest[prefix]})
	s.latest[prefix] = len(s.declared)
}

// leave takes back all declarations but the first n.
func (s *scope) leave(n int) {
	for _, d := range slices.Backward(s.declared[n:]) {
		s.latest[d.prefix] = d.outer
	}
	s.declared = s.declared[:n]
}

// space is the number of the name space of a prefix, which must have one; of what has no prefix, if none is declared, it is 0.
func (s *scope) space(prefix string, at int) int {
	n := s.latest[prefix]
	switch {
	case n > 0:
		return s.declared[n-1].space
	case prefix != "":
		panic(fault{at, api.ErrPrefix})
	}
	return 0
}

// declareAll declares what a beginning declares.
func (s *scope) declareAll(attrs []attr) {
	for _, a := range attrs {
		prefix, declares := a.declares()
		if !declares {
			continue
		}
		if !mayDeclare(prefix, a.value) {
			panic(fault{a.at, api.ErrPrefix})
		}
		s.declare(prefix, a.value)
	}
}

// meaning is what an attribute is known by: its name space and own name, or the prefix that it declares.
type meaning struct {
	declares bool
	space    int
	own      string
}

// meanings are those of a beginning's attributes, no two of which may be the same.
func (s *scope) meanings(attrs []attr) []meaning {
	all := make([]meaning, 0, len(attrs))
	for _, a := range attrs {
		all = append(all, s.meaning(a))
	}
	for i, m := range all {
		if slices.Contains(all[:i], m) {
			panic(fault{attrs[i].at, api.ErrAttr})
		}
	}
	return all
}

func (s *scope) meaning(a attr) meaning {
	if prefix, declares := a.declares(); declares {
		return meaning{declares: true, own: prefix}
	}
	m := meaning{own: a.name.own}
	// what is declared for elements without a prefix is not for attributes
	if a.name.prefix != "" {
		m.space = s.space(a.name.prefix, a.at)
	}
	return m
}
