package graph

import (
	"fmt"
	"runtime/debug"
	"slices"
	"strings"
	"testing"
	"unsafe"

	"budwood/api"
)

// fewNodes has the nodes of filled, and texts that are none.
var fewNodes = []string{"a", "b", "c", "d", "m", "", "A", "a\x00", "aa", "z"}

// filled tells a graph of five nodes: b and c stand on a, d on both, m on nothing.
func filled(t *testing.T) (*Graph, slowGraph) {
	t.Helper()
	g := New()
	s := slowGraph{{"a", nil}, {"b", []string{"a"}}, {"m", nil}, {"c", []string{"a"}}, {"d", []string{"b", "c"}}}
	for _, n := range s {
		wantErr(t, "Add "+n.name, g.Add(n.name, n.on), api.OK)
	}
	wantGraph(t, "filled", g, s, fewNodes)
	return g, s
}

func TestExample(t *testing.T) {
	g := New()
	wantErr(t, "Add(a)", g.Add("a", nil), api.OK)
	wantErr(t, "Add(b on a)", g.Add("b", []string{"a"}), api.OK)
	wantErr(t, "Add(c on a, b)", g.Add("c", []string{"a", "b"}), api.OK)
	wantNodes(t, "Order()", g.Order(), []string{"a", "b", "c"})
	wantNodes(t, "Dependents(a)", g.Dependents("a"), []string{"b", "c"})
	wantErr(t, "Remove(a)", g.Remove("a"), api.ErrInUse)
	wantErr(t, "Turn(a on c)", g.Turn("a", []string{"c"}), api.ErrCycle)
	wantErr(t, "Turn(c on a)", g.Turn("c", []string{"a"}), api.OK)
	if g.Reaches("c", "b") {
		t.Error("c still reaches b")
	}
	wantGraph(t, "turned", g, slowGraph{{"a", nil}, {"b", []string{"a"}}, {"c", []string{"a"}}}, fewNodes)
}

func TestNew(t *testing.T) {
	g, h := New(), New()
	wantGraph(t, "new", g, nil, risingNodes)
	wantErr(t, "Add", g.Add("a", nil), api.OK)
	wantGraph(t, "another one", h, nil, fewNodes)
	wantGraph(t, "a new one", New(), nil, fewNodes)
}

func TestNilGraph(t *testing.T) {
	var g *Graph
	for _, n := range []string{"", "a", "\xff"} {
		for _, deps := range [][]string{nil, {"a"}, {"b", "b"}, {n}} {
			wantErr(t, "Add", g.Add(n, deps), api.ErrNil)
			wantErr(t, "Turn", g.Turn(n, deps), api.ErrNil)
		}
		wantErr(t, "Remove", g.Remove(n), api.ErrNil)
		if g.Has(n) || len(g.Deps(n)) != 0 || len(g.Dependents(n)) != 0 || g.Reaches(n, n) || g.Reaches(n, "b") {
			t.Errorf("a nil graph tells something of %q", n)
		}
	}
	if len(g.Order()) != 0 || g.Fork() != nil {
		t.Error("a nil graph tells something")
	}
}

func TestAdd(t *testing.T) {
	for _, c := range []struct {
		node string
		deps []string
		want api.Errno
	}{
		{"z", nil, api.OK},
		{"", []string{}, api.OK},
		{"z", []string{"m"}, api.OK},
		{"A", []string{"d", "a"}, api.OK},
		{"aa", []string{"m", "d", "c", "b", "a"}, api.OK},
		{"a\x00", []string{"m", "m"}, api.OK},
		{"z", []string{"d", "m", "d", "m", "m"}, api.OK},
		{"z", slices.Repeat([]string{"c", "a"}, 50000), api.OK},
		{"a", nil, api.ErrThere},
		{"m", nil, api.ErrThere},
		{"d", []string{"a"}, api.ErrThere},
		{"d", []string{"b", "c"}, api.ErrThere},
		{"a", []string{"a"}, api.ErrThere},
		// That there is the node stands ahead of a dep that is none.
		{"a", []string{"z"}, api.ErrThere},
		{"a", []string{"", "a"}, api.ErrThere},
		{"z", []string{""}, api.ErrNone},
		{"z", []string{"A"}, api.ErrNone},
		{"z", []string{"aa"}, api.ErrNone},
		{"z", []string{"a\x00"}, api.ErrNone},
		{"z", []string{"a", "A"}, api.ErrNone},
		{"z", []string{"A", "a"}, api.ErrNone},
		{"z", []string{"a", "A", "b"}, api.ErrNone},
		{"z", []string{"a", "b", "c", "d", "m", "m", "A"}, api.ErrNone},
		// A node that isn't there yet is none of its own deps.
		{"z", []string{"z"}, api.ErrNone},
		{"z", []string{"a", "z"}, api.ErrNone},
	} {
		g, s := filled(t)
		what := fmt.Sprintf("Add(%q, %.80q)", c.node, c.deps)
		wantErr(t, what, g.Add(c.node, c.deps), c.want)
		if c.want == api.OK {
			s = append(s, slowNode{c.node, c.deps})
		}
		wantGraph(t, what, g, s, fewNodes)
	}
}

// TestAllTexts has each text as a node, which stands on the one that came ahead of it.
func TestAllTexts(t *testing.T) {
	for _, step := range []int{1, 2, 3, 5, len(risingNodes) - 1} {
		g, s := New(), slowGraph{}
		var deps []string
		for i := range risingNodes {
			n := risingNodes[(i+1)*step%len(risingNodes)]
			if s.has(n) {
				continue
			}
			wantErr(t, fmt.Sprintf("Add(%q)", n), g.Add(n, deps), api.OK)
			s = append(s, slowNode{n, deps})
			deps = []string{n}
		}
		wantGraph(t, fmt.Sprintf("by steps of %d", step), g, s, risingNodes)
	}
}

// TestListsRise has all texts as deps of one node, and as dependents of one.
func TestListsRise(t *testing.T) {
	for _, step := range []int{1, 2, 3, 5, 8, len(risingNodes) - 1} {
		g := New()
		wantErr(t, "Add(below)", g.Add("below", nil), api.OK)
		var nodes []string
		for i := range risingNodes {
			n := risingNodes[(i+1)*step%len(risingNodes)]
			if !slices.Contains(nodes, n) {
				nodes = append(nodes, n)
				wantErr(t, fmt.Sprintf("Add(%q)", n), g.Add(n, []string{"below"}), api.OK)
			}
		}
		wantErr(t, "Add(above)", g.Add("above", append(nodes, nodes...)), api.OK)
		rising := slices.DeleteFunc(slices.Clone(risingNodes), func(n string) bool { return !slices.Contains(nodes, n) })
		wantNodes(t, "Dependents(below)", g.Dependents("below"), rising)
		wantNodes(t, "Deps(above)", g.Deps("above"), rising)
		wantNodes(t, "Order()", g.Order(), slices.Concat([]string{"below"}, rising, []string{"above"}))
	}
}

func TestRemove(t *testing.T) {
	g, s := filled(t)
	for _, n := range fewNodes[5:] {
		wantErr(t, fmt.Sprintf("Remove(%q)", n), g.Remove(n), api.ErrNone)
	}
	for _, n := range []string{"a", "b", "c"} {
		wantErr(t, "Remove "+n, g.Remove(n), api.ErrInUse)
	}
	wantGraph(t, "behind errors", g, s, fewNodes)
	for _, n := range []string{"d", "b", "m", "c", "a"} {
		wantErr(t, "Remove "+n, g.Remove(n), api.OK)
		s = s.without(n)
		wantGraph(t, "without "+n, g, s, fewNodes)
		wantErr(t, "Remove again "+n, g.Remove(n), api.ErrNone)
		wantErr(t, "Turn without it "+n, g.Turn(n, nil), api.ErrNone)
		wantErr(t, "Add on what is gone "+n, g.Add("z", []string{n}), api.ErrNone)
	}
	wantErr(t, "Add(d) again", g.Add("d", nil), api.OK)
	wantErr(t, "Add(a on d)", g.Add("a", []string{"d"}), api.OK)
	wantGraph(t, "other nodes", g, slowGraph{{"d", nil}, {"a", []string{"d"}}}, fewNodes)
}

func TestTurn(t *testing.T) {
	for _, c := range []struct {
		node string
		deps []string
		want api.Errno
	}{
		{"d", nil, api.OK},
		{"d", []string{}, api.OK},
		{"d", []string{"b", "c"}, api.OK},
		{"d", []string{"b"}, api.OK},
		{"d", []string{"m", "a", "m"}, api.OK},
		{"a", nil, api.OK},
		{"a", []string{"m"}, api.OK},
		{"b", []string{"c"}, api.OK},
		{"c", []string{"m", "b", "a", "b"}, api.OK},
		{"m", []string{"a", "b", "c", "d"}, api.OK},
		{"m", slices.Repeat([]string{"d"}, 100000), api.OK},
		{"a", []string{"a"}, api.ErrCycle},
		{"m", []string{"m"}, api.ErrCycle},
		{"d", []string{"b", "c", "d"}, api.ErrCycle},
		{"d", []string{"d", "b", "c"}, api.ErrCycle},
		{"a", []string{"b"}, api.ErrCycle},
		{"a", []string{"d"}, api.ErrCycle},
		{"a", []string{"m", "d"}, api.ErrCycle},
		{"a", []string{"d", "m"}, api.ErrCycle},
		{"b", []string{"a", "d", "c"}, api.ErrCycle},
		{"c", []string{"d"}, api.ErrCycle},
		{"z", nil, api.ErrNone},
		{"", nil, api.ErrNone},
		{"A", []string{"a"}, api.ErrNone},
		{"z", []string{"z"}, api.ErrNone},
		{"a", []string{"z"}, api.ErrNone},
		{"a", []string{""}, api.ErrNone},
		{"a", []string{"m", "z"}, api.ErrNone},
		{"a", []string{"z", "m"}, api.ErrNone},
		// A dep that is no node stands ahead of a circle, wherever it is.
		{"a", []string{"a", "z"}, api.ErrNone},
		{"a", []string{"z", "a"}, api.ErrNone},
		{"a", []string{"d", "b", "z"}, api.ErrNone},
		{"a", []string{"z", "d", "b"}, api.ErrNone},
	} {
		g, s := filled(t)
		what := fmt.Sprintf("Turn(%q, %.80q)", c.node, c.deps)
		wantErr(t, what, g.Turn(c.node, c.deps), c.want)
		if c.want == api.OK {
			s = s.with(c.node, c.deps)
		}
		wantGraph(t, what, g, s, fewNodes)
	}
}

// TestTurnLetsGo has a circle come into question once the old deps are gone alone.
func TestTurnLetsGo(t *testing.T) {
	g, _ := filled(t)
	wantErr(t, "Turn(a on d)", g.Turn("a", []string{"d"}), api.ErrCycle)
	wantErr(t, "Turn(b on none)", g.Turn("b", nil), api.OK)
	wantErr(t, "Turn(a on b)", g.Turn("a", []string{"b"}), api.OK)
	wantErr(t, "Turn(b on c)", g.Turn("b", []string{"c"}), api.ErrCycle)
	wantErr(t, "Turn(d on m)", g.Turn("d", []string{"m"}), api.OK)
	wantErr(t, "Turn(b on d)", g.Turn("b", []string{"d"}), api.OK)
	wantErr(t, "Remove(c)", g.Remove("c"), api.OK)
	wantErr(t, "Remove(b)", g.Remove("b"), api.ErrInUse)
	wantGraph(t, "turned", g, slowGraph{{"m", nil}, {"d", []string{"m"}}, {"b", []string{"d"}}, {"a", []string{"b"}}}, fewNodes)
	wantNodes(t, "Order()", g.Order(), []string{"m", "d", "b", "a"})
}

// TestOrderTakesTheLowest has orders that other rules (by depth, or a node's deps right ahead of it) would tell otherwise.
func TestOrderTakesTheLowest(t *testing.T) {
	for _, c := range []struct {
		graph slowGraph
		want  string
	}{
		{slowGraph{{"z", nil}, {"a", []string{"z"}}, {"b", nil}}, "b z a"},
		{slowGraph{{"m", nil}, {"a", []string{"m"}}, {"z", nil}}, "m a z"},
		{slowGraph{{"b", nil}, {"z", []string{"b"}}, {"a", []string{"z"}}, {"c", nil}}, "b c z a"},
		{slowGraph{{"d", nil}, {"c", []string{"d"}}, {"b", []string{"c"}}, {"a", []string{"b"}}, {"e", nil}}, "d c b a e"},
		{slowGraph{{"b", nil}, {"d", nil}, {"a", []string{"b", "d"}}, {"c", []string{"b"}}, {"e", []string{"a"}}}, "b c d a e"},
		{slowGraph{{"c", nil}, {"b", nil}, {"d", []string{"b"}}, {"a", []string{"c", "b"}}}, "b c a d"},
		{slowGraph{{"x", nil}, {"y", []string{"x"}}, {"a", []string{"y"}}, {"b", []string{"x"}}, {"c", []string{"b", "a"}}}, "x b y a c"},
	} {
		g := New()
		for _, n := range c.graph {
			wantErr(t, "Add "+n.name, g.Add(n.name, n.on), api.OK)
		}
		wantNodes(t, "Order()", g.Order(), strings.Fields(c.want))
	}
}

// TestOrderOfMany has nodes that come in many orders, of which many may come next.
func TestOrderOfMany(t *testing.T) {
	names := slices.DeleteFunc(slices.Clone(risingNodes), func(n string) bool { return n == "" })
	for step := 1; step < len(names); step++ {
		g := New()
		s := slowGraph{}
		for i := range names {
			n := names[(i+1)*step%len(names)]
			if s.has(n) {
				continue
			}
			var deps []string
			for j := i % 3; j > 0; j-- {
				deps = append(deps, s[(i*i+j*step)%len(s)].name)
			}
			wantErr(t, fmt.Sprintf("Add(%q)", n), g.Add(n, deps), api.OK)
			s = append(s, slowNode{n, deps})
		}
		wantNodes(t, fmt.Sprintf("by steps of %d: Order()", step), g.Order(), s.order())
	}
}

// TestForksHaveNothingInCommon changes a fork, and then what another one was forked of.
func TestForksHaveNothingInCommon(t *testing.T) {
	for _, d := range []deed{addOf("z", "a", "m"), removeOf("d"), removeOf("m"), turnOf("d", "m"), turnOf("d"), turnOf("a", "m"), turnOf("m", "d")} {
		g, s := filled(t)
		after, want := d.slow(s)
		wantErr(t, d.name, want, api.OK)
		f := g.Fork()
		wantGraph(t, "fork", f, s, fewNodes)
		wantErr(t, d.name+" of a fork", d.fast(f), api.OK)
		wantGraph(t, "behind a fork's "+d.name, g, s, fewNodes)
		wantGraph(t, "a fork behind its "+d.name, f, after, fewNodes)
		h := g.Fork()
		wantErr(t, d.name, d.fast(g), api.OK)
		wantGraph(t, "a fork behind another's "+d.name, h, s, fewNodes)
		wantGraph(t, "behind "+d.name, g, after, fewNodes)
	}
	f := New().Fork()
	wantGraph(t, "fork of none", f, nil, fewNodes)
	wantErr(t, "Add to a fork of none", f.Add("a", nil), api.OK)
	wantErr(t, "Add to a fork of a fork", f.Fork().Add("b", []string{"a"}), api.OK)
	wantGraph(t, "fork of none, with a node", f, slowGraph{{"a", nil}}, fewNodes)
}

func TestAnswersAreNew(t *testing.T) {
	g, s := filled(t)
	wantErr(t, "Turn(m)", g.Turn("m", []string{"a", "b", "c"}), api.OK)
	s = s.with("m", []string{"a", "b", "c"})
	for _, look := range []func() []string{
		g.Order,
		func() []string { return g.Deps("d") },
		func() []string { return g.Deps("m") },
		func() []string { return g.Dependents("a") },
		func() []string { return g.Dependents("b") },
	} {
		list, again := look(), look()
		want := slices.Clone(again)
		for i := range list[:cap(list)] {
			list[:cap(list)][i] = "spoilt"
		}
		wantGraph(t, "behind a change of what was told", g, s, fewNodes)
		wantNodes(t, "what was told along with it", again, want)
		wantErr(t, "Turn(d)", g.Turn("d", nil), api.OK)
		wantErr(t, "Turn(m)", g.Turn("m", nil), api.OK)
		wantNodes(t, "what was told ahead of a change", again, want)
		wantErr(t, "Turn(d) back", g.Turn("d", []string{"b", "c"}), api.OK)
		wantErr(t, "Turn(m) back", g.Turn("m", []string{"c", "b", "a"}), api.OK)
	}
}

func TestArgumentsAreNotChanged(t *testing.T) {
	g, _ := filled(t)
	room := []string{"m", "c", "a", "c", "spare"}
	deps := room[:4]
	wantErr(t, "Add", g.Add("z", deps), api.OK)
	wantErr(t, "Turn", g.Turn("d", deps), api.OK)
	wantErr(t, "Turn in a circle", g.Turn("c", deps), api.ErrCycle)
	wantNodes(t, "the argument", room, []string{"m", "c", "a", "c", "spare"})
}

// TestArgumentsAreNotKept writes over lists that were handed in, and over the very bytes of their texts.
func TestArgumentsAreNotKept(t *testing.T) {
	var handed [][]byte
	var lists [][]string
	text := func(s string) string {
		b := []byte(s)
		handed = append(handed, b)
		return unsafe.String(&b[0], len(b))
	}
	list := func(nodes ...string) []string {
		var l []string
		for _, n := range nodes {
			l = append(l, text(n))
		}
		lists = append(lists, l)
		return l
	}
	g := New()
	for _, n := range []string{"a", "b", "c"} {
		wantErr(t, "Add", g.Add(text(n), nil), api.OK)
	}
	wantErr(t, "Add", g.Add(text("d"), list("b", "c", "b")), api.OK)
	wantErr(t, "Turn", g.Turn(text("c"), list("b", "a", "b")), api.OK)
	wantErr(t, "Turn", g.Turn(text("b"), list("a", "a")), api.OK)
	wantErr(t, "Turn to the same", g.Turn(text("b"), list("a")), api.OK)
	wantErr(t, "Turn in a circle", g.Turn(text("a"), list("d", "b")), api.ErrCycle)
	wantErr(t, "Add of what is there", g.Add(text("d"), list("a")), api.ErrThere)
	wantErr(t, "Remove in use", g.Remove(text("b")), api.ErrInUse)
	f := g.Fork()
	for _, b := range handed {
		b[0] = 'h'
	}
	for _, l := range lists {
		clear(l)
	}
	s := slowGraph{{"a", nil}, {"b", []string{"a"}}, {"c", []string{"a", "b"}}, {"d", []string{"b", "c"}}}
	wantGraph(t, "behind a change of arguments", g, s, fewNodes)
	wantGraph(t, "behind a change of arguments, the fork", f, s, fewNodes)
	for _, n := range []string{"d", "c", "b", "a"} {
		wantErr(t, "Remove "+n, g.Remove(n), api.OK)
	}
	wantGraph(t, "removed", g, nil, fewNodes)
}

// deed is a call that changes a graph, of a graph and of its model.
type deed struct {
	name string
	fast func(g *Graph) api.Errno
	slow func(s slowGraph) (slowGraph, api.Errno)
}

// addOf tells the deed Add.
func addOf(node string, deps ...string) deed {
	return deed{
		fmt.Sprintf("Add(%q, %q)", node, deps),
		func(g *Graph) api.Errno { return g.Add(node, deps) },
		func(s slowGraph) (slowGraph, api.Errno) { return s.add(node, deps) },
	}
}

// removeOf tells the deed Remove.
func removeOf(node string) deed {
	return deed{
		fmt.Sprintf("Remove(%q)", node),
		func(g *Graph) api.Errno { return g.Remove(node) },
		func(s slowGraph) (slowGraph, api.Errno) { return s.remove(node) },
	}
}

// turnOf tells the deed Turn.
func turnOf(node string, deps ...string) deed {
	return deed{
		fmt.Sprintf("Turn(%q, %q)", node, deps),
		func(g *Graph) api.Errno { return g.Turn(node, deps) },
		func(s slowGraph) (slowGraph, api.Errno) { return s.turn(node, deps) },
	}
}

// allDeeds tells each call of some nodes on each of their subsets.
func allDeeds(nodes []string) []deed {
	var deeds []deed
	for _, n := range nodes {
		deeds = append(deeds, removeOf(n))
		for some := range 1 << len(nodes) {
			var deps []string
			for i, dep := range nodes {
				if some>>i&1 == 1 {
					deps = append(deps, dep)
				}
			}
			deeds = append(deeds, addOf(n, deps...), turnOf(n, deps...))
		}
	}
	return deeds
}

// TestAllSmallGraphs goes through all graphs of up to four nodes, and does each call to each of them.
func TestAllSmallGraphs(t *testing.T) {
	nodes := []string{"a", "b", "c", "d"}
	deeds := allDeeds(nodes)
	type both struct {
		fast *Graph
		slow slowGraph
	}
	known := map[string]bool{}
	name := func(s slowGraph) string {
		text := ""
		for _, n := range nodes {
			text += fmt.Sprint(s.has(n), s.deps(n))
		}
		return text
	}
	waiting := []both{{New(), nil}}
	known[name(nil)] = true
	for len(waiting) > 0 {
		now := waiting[0]
		waiting = waiting[1:]
		for _, d := range deeds {
			f := now.fast.Fork()
			after, want := d.slow(now.slow)
			what := fmt.Sprintf("%s of %v", d.name, now.slow)
			wantErr(t, what, d.fast(f), want)
			wantGraph(t, what, f, after, nodes)
			if !known[name(after)] {
				known[name(after)] = true
				waiting = append(waiting, both{f, after})
			}
		}
	}
	// So many are the graphs without a circle of up to four of four nodes: 1 + 4·1 + 6·3 + 4·25 + 543.
	if len(known) != 666 {
		t.Errorf("there are %d graphs, want 666", len(known))
	}
}

// TestLongRowOfDeeds goes on with one graph through deeds that a short rule makes.
func TestLongRowOfDeeds(t *testing.T) {
	nodes := []string{"", "\x00", "A", "a", "a\x00", "aa", "b", "z", "é", "\xff"}
	seed := uint64(1)
	next := func(below int) int {
		seed = seed*6364136223846793005 + 1442695040888963407
		return int(seed >> 33 % uint64(below))
	}
	g, s := New(), slowGraph{}
	for i := range 20000 {
		var deps []string
		for range next(5) {
			deps = append(deps, nodes[next(len(nodes))])
		}
		node := nodes[next(len(nodes))]
		d := []deed{addOf(node, deps...), turnOf(node, deps...), removeOf(node), addOf(node, deps...), turnOf(node, deps...)}[next(5)]
		after, want := d.slow(s)
		what := fmt.Sprintf("the deed %d, %s", i, d.name)
		wantErr(t, what, d.fast(g), want)
		s = after
		wantGraph(t, what, g, s, nodes)
	}
}

// TestLongChain has a graph that is far deeper than the stack has room for.
func TestLongChain(t *testing.T) {
	defer debug.SetMaxStack(debug.SetMaxStack(4 << 20))
	g := New()
	name := func(i int) string { return fmt.Sprintf("n%07d", i) }
	const length = 200000
	wantErr(t, "Add", g.Add(name(length), nil), api.OK)
	for i := length - 1; i >= 0; i-- {
		if err := g.Add(name(i), []string{name(i + 1)}); err != api.OK {
			t.Fatalf("Add(%d) = %d", i, int(err))
		}
	}
	if !g.Reaches(name(0), name(length)) || g.Reaches(name(length), name(0)) {
		t.Error("Reaches of the ends")
	}
	// What waits while such a graph is gone through isn't laid into the argument.
	room := []string{name(length / 3), name(length / 2), name(0), "spare", "room"}
	wantErr(t, "Turn of the end to the beginning", g.Turn(name(length), room[:3]), api.ErrCycle)
	wantNodes(t, "the argument", room, []string{name(length / 3), name(length / 2), name(0), "spare", "room"})
	wantErr(t, "Turn in the middle", g.Turn(name(length/2), nil), api.OK)
	if g.Reaches(name(0), name(length)) || !g.Reaches(name(0), name(length/2)) {
		t.Error("Reaches behind a cut")
	}
	wantErr(t, "Turn of the end to the beginning", g.Turn(name(length), []string{name(0)}), api.OK)
	order := g.Order()
	if len(order) != length+1 || order[0] != name(length/2) || order[length/2] != name(0) || order[length] != name(length/2+1) {
		t.Errorf("Order has %d nodes", len(order))
	}
	if f := g.Fork(); !slices.Equal(f.Order(), order) {
		t.Error("a fork has another order")
	}
}

// TestManyWays has a graph of which the ways are far more than the nodes.
func TestManyWays(t *testing.T) {
	g := New()
	wantErr(t, "Add", g.Add("z", nil), api.OK)
	below := []string{"z"}
	want := []string{"z"}
	for i := range 2000 {
		level := []string{fmt.Sprintf("a%04d", i), fmt.Sprintf("b%04d", i)}
		wantErr(t, "Add", g.Add(level[0], below), api.OK)
		wantErr(t, "Add", g.Add(level[1], below), api.OK)
		want = append(want, level...)
		below = level
	}
	if !g.Reaches("b1999", "z") || !g.Reaches("a1999", "b0000") || g.Reaches("a1999", "b1999") || g.Reaches("z", "a0000") {
		t.Error("Reaches")
	}
	wantErr(t, "Turn", g.Turn("z", []string{"a1999", "b1999"}), api.ErrCycle)
	wantNodes(t, "Order()", g.Order(), want)
}
