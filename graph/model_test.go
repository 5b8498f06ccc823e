package graph

import (
	"slices"
	"testing"

	"budwood/api"
)

// risingNodes has texts in their order: byte by byte, a beginning ahead of what is longer.
var risingNodes = []string{
	"", "\x00", "\x00\x00", "\x00a", "\n", " ", "!", "1", "10", "2", "@", "A", "AB", "Ab", "B", "Z", "_",
	"a", "a\x00", "a\x00b", "a ", "a@1", "a@10", "a@9", "aA", "aa", "aaa", "ab", "b", "ba", "b\xff", "c", "d", "m", "n", "z", "zz",
	"\x7f", "\x80", "\xc3", "\xc3\xa8", "é", "éa", "ê", "\uffff", "\U00010000", "\xff", "\xff\x00", "\xff\xff",
}

// slowNode is a node, and what it stands on, each once, in any order.
type slowNode struct {
	name string
	on   []string
}

// slowGraph is a model of a graph: nodes, as they came. A call tells another graph.
type slowGraph []slowNode

// on tells what a node stands on.
func (s slowGraph) on(node string) []string {
	for _, n := range s {
		if n.name == node {
			return n.on
		}
	}
	return nil
}

// has tells whether there is a node.
func (s slowGraph) has(node string) bool {
	return slices.ContainsFunc(s, func(n slowNode) bool { return n.name == node })
}

// hasAll tells whether there are all the nodes.
func (s slowGraph) hasAll(nodes []string) bool {
	return !slices.ContainsFunc(nodes, func(n string) bool { return !s.has(n) })
}

// deps tells what a node stands on, rising; the nodes are risingNodes.
func (s slowGraph) deps(node string) []string {
	return slices.DeleteFunc(slices.Clone(risingNodes), func(n string) bool { return !slices.Contains(s.on(node), n) })
}

// dependents tells what stands on a node, rising.
func (s slowGraph) dependents(node string) []string {
	return slices.DeleteFunc(slices.Clone(risingNodes), func(n string) bool { return !slices.Contains(s.on(n), node) })
}

// reaches tells whether a reaches b, as the document's words tell it.
func (s slowGraph) reaches(a, b string) bool {
	return slices.ContainsFunc(s.on(a), func(dep string) bool { return dep == b || s.reaches(dep, b) })
}

// order tells all nodes: of those that may come next always the lowest.
func (s slowGraph) order() []string {
	var order []string
	for range s {
		for _, n := range risingNodes {
			isNext := s.has(n) && !slices.Contains(order, n)
			for _, dep := range s.on(n) {
				isNext = isNext && slices.Contains(order, dep)
			}
			if isNext {
				order = append(order, n)
				break
			}
		}
	}
	return order
}

// with tells the graph with a node, which is new or stood on others.
func (s slowGraph) with(node string, deps []string) slowGraph {
	var on []string
	for _, dep := range deps {
		if !slices.Contains(on, dep) {
			on = append(on, dep)
		}
	}
	return append(s.without(node), slowNode{node, on})
}

// without tells the graph without a node.
func (s slowGraph) without(node string) slowGraph {
	return slices.DeleteFunc(slices.Clone(s), func(n slowNode) bool { return n.name == node })
}

// add is Add.
func (s slowGraph) add(node string, deps []string) (slowGraph, api.Errno) {
	switch {
	case s.has(node):
		return s, api.ErrThere
	case !s.hasAll(deps):
		return s, api.ErrNone
	}
	return s.with(node, deps), api.OK
}

// remove is Remove.
func (s slowGraph) remove(node string) (slowGraph, api.Errno) {
	switch {
	case !s.has(node):
		return s, api.ErrNone
	case len(s.dependents(node)) > 0:
		return s, api.ErrInUse
	}
	return s.without(node), api.OK
}

// turn is Turn.
func (s slowGraph) turn(node string, deps []string) (slowGraph, api.Errno) {
	if !s.has(node) || !s.hasAll(deps) {
		return s, api.ErrNone
	}
	for _, dep := range deps {
		if dep == node || s.reaches(dep, node) {
			return s, api.ErrCycle
		}
	}
	return s.with(node, deps), api.OK
}

// wantErr holds an error against what it should be.
func wantErr(t *testing.T, what string, got, want api.Errno) {
	t.Helper()
	if got != want {
		t.Fatalf("%s = %d, want %d", what, int(got), int(want))
	}
}

// wantNodes holds nodes against what they should be.
func wantNodes(t *testing.T, what string, got, want []string) {
	t.Helper()
	if !slices.Equal(got, want) {
		t.Fatalf("%s = %q, want %q", what, got, want)
	}
}

// wantGraph holds all looks at a graph, at these nodes, against a model of it.
func wantGraph(t *testing.T, what string, g *Graph, s slowGraph, nodes []string) {
	t.Helper()
	wantNodes(t, what+": Order()", g.Order(), s.order())
	for _, a := range nodes {
		if got, want := g.Has(a), s.has(a); got != want {
			t.Fatalf("%s: Has(%q) = %v, want %v", what, a, got, want)
		}
		if got, want := g.Deps(a), s.deps(a); !slices.Equal(got, want) {
			t.Fatalf("%s: Deps(%q) = %q, want %q", what, a, got, want)
		}
		if got, want := g.Dependents(a), s.dependents(a); !slices.Equal(got, want) {
			t.Fatalf("%s: Dependents(%q) = %q, want %q", what, a, got, want)
		}
		for _, b := range nodes {
			if got, want := g.Reaches(a, b), s.reaches(a, b); got != want {
				t.Fatalf("%s: Reaches(%q, %q) = %v, want %v", what, a, b, got, want)
			}
			if a == b && g.Reaches(a, b) {
				t.Fatalf("%s: %q reaches itself", what, a)
			}
		}
	}
}
