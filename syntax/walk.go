package syntax

import (
	"iter"
	"math"
	"slices"
	"strings"

	"gridiron/api"
)

// Same tells whether two terms are the same, field by field.
func Same(a, b api.Term) bool {
	return same(&a, &b)
}

func same(a, b *api.Term) bool {
	if !sameFields(a, b) || len(a.Args) != len(b.Args) {
		return false
	}
	for i := range a.Args {
		if !same(&a.Args[i], &b.Args[i]) {
			return false
		}
	}
	return true
}

// sameFields tells whether two terms are the same but for their Args.
func sameFields(a, b *api.Term) bool {
	return a.Op == b.Op &&
		math.Float64bits(a.Num) == math.Float64bits(b.Num) &&
		a.Text == b.Text &&
		a.Err == b.Err &&
		a.Name == b.Name &&
		a.Ref == b.Ref &&
		a.Rows == b.Rows
}

// Clone is a term in memory of its own.
func Clone(t api.Term) api.Term {
	own(&t)
	return t
}

// own puts what a term holds into memory of its own.
func own(t *api.Term) {
	t.Text, t.Name = strings.Clone(t.Text), strings.Clone(t.Name)
	t.Ref.Sheet, t.Ref.To = strings.Clone(t.Ref.Sheet), strings.Clone(t.Ref.To)
	t.Args = slices.Clone(t.Args)
	for i := range t.Args {
		own(&t.Args[i])
	}
}

// Count is how many terms a term has, itself with them.
func Count(t api.Term) int {
	n := 0
	for range terms(&t) {
		n++
	}
	return n
}

// Refs goes through the references of a term, from the left.
func Refs(t api.Term) iter.Seq[api.Ref] {
	// what is handed in is not kept
	kept := Clone(t)
	return func(yield func(api.Ref) bool) {
		for x := range terms(&kept) {
			if x.Op == api.NRef && !yield(x.Ref) {
				return
			}
		}
	}
}

// Names are the names of named expressions in a term, each once.
func Names(t api.Term) []string {
	return namesOf(&t, api.NName)
}

// Calls are the names of functions in a term, each once.
func Calls(t api.Term) []string {
	return namesOf(&t, api.NCall)
}

// namesOf are the names of a term's terms of one operation, each once, as they first stand there.
func namesOf(t *api.Term, op int) []string {
	var out []string
	seen := map[string]struct{}{}
	for x := range terms(t) {
		if x.Op != op {
			continue
		}
		if _, twice := seen[x.Name]; !twice {
			seen[x.Name] = struct{}{}
			out = append(out, strings.Clone(x.Name))
		}
	}
	return out
}

// terms goes through a term and what is in it, each ahead of its Args.
func terms(t *api.Term) iter.Seq[*api.Term] {
	return func(yield func(*api.Term) bool) {
		walk(t, yield)
	}
}

// walk goes through the terms up to the one at which it is left; it answers whether it was not.
func walk(t *api.Term, yield func(*api.Term) bool) bool {
	if !yield(t) {
		return false
	}
	for i := range t.Args {
		if !walk(&t.Args[i], yield) {
			return false
		}
	}
	return true
}
