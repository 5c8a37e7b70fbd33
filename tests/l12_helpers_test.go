package tests

import (
	"fmt"
	"math"
	"slices"
	"strings"
	"testing"

	"loop.example/g00872/impl"
)

// oddPairs are no numbers of pairs, apart from -1 and 0 to 47; some look like one when they are cut to fewer bits.
var oddPairs = []int64{-2, -3, 48, 49, 255, 256, 257, -256, 1<<32 - 1, 1 << 32, 1<<32 + 1, -1 << 32, math.MaxInt64, math.MinInt64, math.MinInt64 + 1}

// pairedOf returns the graph of a text with its number of nodes and its edges, such as "3; 0 2, 2 1 4". An edge without a third number is
// single.
func pairedOf(text string) impl.PairedGraph {
	nodes, edges, _ := strings.Cut(text, ";")
	g := impl.PairedGraph{Nodes: numbersOf(nodes)[0]}
	for _, edge := range partsOf(edges) {
		numbers := append(numbersOf(edge), -1)
		g.Edges = append(g.Edges, impl.PairedEdge{A: numbers[0], B: numbers[1], Pair: numbers[2]})
	}
	return g
}

// describePaired writes a graph, valid or not, for messages.
func describePaired(g impl.PairedGraph) string {
	return fmt.Sprintf("\n\t%d nodes\n\t%d edges %v", g.Nodes, len(g.Edges), g.Edges[:min(len(g.Edges), 60)])
}

func samePaired(a, b impl.PairedGraph) bool {
	return a.Nodes == b.Nodes && slices.Equal(a.Edges, b.Edges)
}

func copyPaired(g impl.PairedGraph) impl.PairedGraph {
	return impl.PairedGraph{Nodes: g.Nodes, Edges: slices.Clone(g.Edges)}
}

// wantGraph is GraphOfNet as the tests see it.
func wantGraph(n impl.Net) (impl.PairedGraph, bool) {
	if !isNet(n) {
		return impl.PairedGraph{}, false
	}
	out := impl.PairedGraph{Nodes: int64(len(n.Links))}
	pars := wantLinksOf(n, par)
	for _, arc := range allArcs(n) {
		edge := impl.PairedEdge{A: arc.From, B: arc.To, Pair: -1}
		if at := slices.Index(pars, arc.To); at >= 0 {
			edge.Pair = pars[at]
		}
		out.Edges = append(out.Edges, edge)
	}
	return out, true
}

// isPaired is ValidPairedGraph as the tests see it.
func isPaired(g impl.PairedGraph) bool {
	if g.Nodes > 48 || g.Nodes < 0 || len(g.Edges) > 48 {
		return false
	}
	nodes, pairs := inOrder(int(g.Nodes)), append(inOrder(48), -1)
	for _, edge := range g.Edges {
		if !slices.Contains(nodes, edge.A) || !slices.Contains(nodes, edge.B) || !slices.Contains(pairs, edge.Pair) {
			return false
		}
		if edge.Pair != -1 && len(edgesOfPair(g, edge.Pair)) != 2 {
			return false
		}
	}
	return true
}

// edgesOfPair returns the positions of the edges with a number as their Pair.
func edgesOfPair(g impl.PairedGraph, pair int64) []int {
	var out []int
	for at, edge := range g.Edges {
		if edge.Pair == pair {
			out = append(out, at)
		}
	}
	return out
}

// shrinking is a valid graph under contraction as the tests see it. Each node that it has at the beginning keeps the name of the least node
// that it has been merged with, and the nodes that are left are numbered in the order of their names. The edges that are left are kept
// by their positions at the beginning.
type shrinking struct {
	start impl.PairedGraph
	names []int64
	left  []int
}

func shrinkingOf(g impl.PairedGraph) *shrinking {
	s := &shrinking{start: g, names: inOrder(int(g.Nodes))}
	for at := range g.Edges {
		s.left = append(s.left, at)
	}
	return s
}

// graph returns the graph that is left.
func (s *shrinking) graph() impl.PairedGraph {
	nodes := slices.Compact(slices.Sorted(slices.Values(s.names)))
	out := impl.PairedGraph{Nodes: int64(len(nodes))}
	for _, at := range s.left {
		edge := s.start.Edges[at]
		edge.A, edge.B = int64(slices.Index(nodes, s.names[edge.A])), int64(slices.Index(nodes, s.names[edge.B]))
		out.Edges = append(out.Edges, edge)
	}
	return out
}

// ends returns the names of the ends of an edge at the beginning, in order and without repetition.
func (s *shrinking) ends(at int) []int64 {
	names := []int64{s.names[s.start.Edges[at].A], s.names[s.start.Edges[at].B]}
	slices.Sort(names)
	return slices.Compact(names)
}

// together returns the edge at a position, and the other one of its pair.
func (s *shrinking) together(at int) []int {
	if pair := s.start.Edges[at].Pair; pair >= 0 {
		return edgesOfPair(s.start, pair)
	}
	return []int{at}
}

// shrink contracts the edge that is left at a position, with its pair, and reports whether this is possible.
func (s *shrinking) shrink(at int) bool {
	group, ends := s.together(at), s.ends(at)
	for _, other := range group {
		if len(ends) != 2 || !slices.Equal(s.ends(other), ends) {
			return false
		}
	}
	s.left = slices.DeleteFunc(slices.Clone(s.left), func(at int) bool { return slices.Contains(group, at) })
	for node, name := range s.names {
		if name == ends[1] {
			s.names[node] = ends[0]
		}
	}
	return true
}

// shrinkFirst contracts the first edge that can be contracted, and reports whether there is one.
func (s *shrinking) shrinkFirst() bool { return slices.ContainsFunc(slices.Clone(s.left), s.shrink) }

// wantShrunk returns the graph in which the edge at a position has been contracted, with its pair.
func wantShrunk(g impl.PairedGraph, at int) (impl.PairedGraph, bool) {
	if s := shrinkingOf(g); s.shrink(at) {
		return s.graph(), true
	}
	return impl.PairedGraph{}, false
}

// wantEdge is ContractEdge as the tests see it.
func wantEdge(g impl.PairedGraph, edge int64) (impl.PairedGraph, bool) {
	if !isPaired(g) || edge < 0 || edge >= int64(len(g.Edges)) || g.Edges[edge].Pair != -1 {
		return impl.PairedGraph{}, false
	}
	return wantShrunk(g, int(edge))
}

// wantPair is ContractPair as the tests see it.
func wantPair(g impl.PairedGraph, pair int64) (impl.PairedGraph, bool) {
	edges := edgesOfPair(g, pair)
	if !isPaired(g) || pair == -1 || len(edges) == 0 {
		return impl.PairedGraph{}, false
	}
	return wantShrunk(g, edges[0])
}

// wantFirst is ContractFirst as the tests see it.
func wantFirst(g impl.PairedGraph) (impl.PairedGraph, bool) {
	if isPaired(g) {
		if s := shrinkingOf(g); s.shrinkFirst() {
			return s.graph(), true
		}
	}
	return impl.PairedGraph{}, false
}

// wantAll is ContractAll as the tests see it.
func wantAll(g impl.PairedGraph) (impl.PairedGraph, int64) {
	if !isPaired(g) {
		return impl.PairedGraph{}, -1
	}
	s, count := shrinkingOf(g), int64(0)
	for s.shrinkFirst() {
		count++
	}
	return s.graph(), count
}

// isOnePoint is IsPoint as the tests see it.
func isOnePoint(g impl.PairedGraph) bool { return samePaired(g, impl.PairedGraph{Nodes: 1}) }

// wantPaired compares a graph with the expected one, and reports whether there is one. A result must be valid.
func wantPaired(t *testing.T, what string, got impl.PairedGraph, ok bool, want impl.PairedGraph, wantOk bool, of impl.PairedGraph) bool {
	t.Helper()
	if ok != wantOk || !samePaired(got, want) {
		t.Fatalf("%s = %v with%s\ninstead of %v with%s\nof%s", what, ok, describePaired(got), wantOk, describePaired(want), describePaired(of))
	}
	if !impl.ValidPairedGraph(got) || got.Nodes != of.Nodes-1 && ok {
		t.Fatalf("%s is not valid or has not one node less:%s\nof%s", what, describePaired(got), describePaired(of))
	}
	return ok
}

// checkEdge compares ContractEdge with the expectation, and reports whether there is a result.
func checkEdge(t *testing.T, g impl.PairedGraph, edge int64) bool {
	t.Helper()
	got, ok := impl.ContractEdge(g, edge)
	want, wantOk := wantEdge(g, edge)
	return wantPaired(t, fmt.Sprintf("ContractEdge(%d)", edge), got, ok, want, wantOk, g)
}

// checkPair compares ContractPair with the expectation, and reports whether there is a result.
func checkPair(t *testing.T, g impl.PairedGraph, pair int64) bool {
	t.Helper()
	got, ok := impl.ContractPair(g, pair)
	want, wantOk := wantPair(g, pair)
	return wantPaired(t, fmt.Sprintf("ContractPair(%d)", pair), got, ok, want, wantOk, g)
}

// checkFirst compares ContractFirst with the expectation, and returns its result.
func checkFirst(t *testing.T, g impl.PairedGraph) (impl.PairedGraph, bool) {
	t.Helper()
	got, ok := impl.ContractFirst(g)
	want, wantOk := wantFirst(g)
	return got, wantPaired(t, "ContractFirst", got, ok, want, wantOk, g)
}

// checkAll compares ContractAll of a valid graph with the expectation and with ContractFirst, again and again, and returns its results.
func checkAll(t *testing.T, g impl.PairedGraph) (impl.PairedGraph, int64) {
	t.Helper()
	got, count := impl.ContractAll(g)
	if want, wantCount := wantAll(g); count != wantCount || !samePaired(got, want) || !impl.ValidPairedGraph(got) {
		t.Fatalf("ContractAll = %d with%s\ninstead of %d with%s\nof%s", count, describePaired(got), wantCount, describePaired(want), describePaired(g))
	}
	last := g
	for range count {
		next, ok := checkFirst(t, last)
		if !ok || !impl.ValidPairedGraph(next) {
			t.Fatalf("ContractFirst = %v after%s\nof%s", ok, describePaired(last), describePaired(g))
		}
		last = next
	}
	if _, ok := checkFirst(t, last); ok || !samePaired(last, got) || got.Nodes != g.Nodes-count {
		t.Fatalf("ContractFirst goes on or ends in%s\ninstead of%s", describePaired(last), describePaired(got))
	}
	return got, count
}

// checkPaired compares all functions of a graph with the expectation, for all its edges and pairs, and reports whether it contracts to a
// point.
func checkPaired(t *testing.T, g impl.PairedGraph) bool {
	t.Helper()
	if !isPaired(g) {
		checkNoPaired(t, g)
		return false
	}
	if !impl.ValidPairedGraph(g) || impl.IsPoint(g) != isOnePoint(g) {
		t.Fatalf("ValidPairedGraph, IsPoint = %v, %v of%s", impl.ValidPairedGraph(g), impl.IsPoint(g), describePaired(g))
	}
	pairs := []int64{-2, -1, 0, 1, 47, 48}
	for at, edge := range g.Edges {
		checkEdge(t, g, int64(at))
		pairs = append(pairs, edge.Pair)
	}
	checkEdge(t, g, -1)
	checkEdge(t, g, int64(len(g.Edges)))
	for _, pair := range pairs {
		checkPair(t, g, pair)
	}
	checkFirst(t, g)
	last, count := checkAll(t, g)
	if impl.IsPoint(last) != isOnePoint(last) || isOnePoint(last) && count != g.Nodes-1 {
		t.Fatalf("IsPoint = %v of%s", impl.IsPoint(last), describePaired(last))
	}
	return isOnePoint(last)
}

// checkNoPaired fails if a function has a result for what is no valid graph.
func checkNoPaired(t *testing.T, g impl.PairedGraph) {
	t.Helper()
	if impl.ValidPairedGraph(g) || impl.IsPoint(g) {
		t.Fatalf("ValidPairedGraph, IsPoint = %v, %v of%s", impl.ValidPairedGraph(g), impl.IsPoint(g), describePaired(g))
	}
	for _, number := range []int64{0, 1, 2, -1, 47, 48, int64(len(g.Edges)) - 1, math.MaxInt64, math.MinInt64} {
		edge, edgeOk := impl.ContractEdge(g, number)
		pair, pairOk := impl.ContractPair(g, number)
		if edgeOk || pairOk || edge.Nodes != 0 || len(edge.Edges) > 0 || pair.Nodes != 0 || len(pair.Edges) > 0 {
			t.Fatalf("ContractEdge, ContractPair of %d = %v, %v of%s", number, edgeOk, pairOk, describePaired(g))
		}
	}
	if first, ok := impl.ContractFirst(g); ok || first.Nodes != 0 || len(first.Edges) > 0 {
		t.Fatalf("ContractFirst = %v with%s\nof%s", ok, describePaired(first), describePaired(g))
	}
	if last, count := impl.ContractAll(g); count != -1 || last.Nodes != 0 || len(last.Edges) > 0 {
		t.Fatalf("ContractAll = %d with%s\nof%s", count, describePaired(last), describePaired(g))
	}
}

// checkNetGraph compares GraphOfNet and CorrectByContraction of a net with the expectation, and reports whether the net is correct.
func checkNetGraph(t *testing.T, n impl.Net) bool {
	t.Helper()
	got, ok := impl.GraphOfNet(n)
	want, wantOk := wantGraph(n)
	if ok != wantOk || !samePaired(got, want) {
		t.Fatalf("GraphOfNet = %v with%s\ninstead of %v with%s\nof%s", ok, describePaired(got), wantOk, describePaired(want), describeNet(n))
	}
	if ok && (!isPaired(got) || !impl.ValidPairedGraph(got)) {
		t.Fatalf("GraphOfNet is not valid:%s\nof%s", describePaired(got), describeNet(n))
	}
	last, _ := wantAll(want)
	correct := wantOk && isOnePoint(last)
	if impl.CorrectByContraction(n) != correct {
		t.Fatalf("CorrectByContraction = %v of%s", !correct, describeNet(n))
	}
	return correct
}

// split returns a graph with one node more, of which the graph is a contraction: a node becomes two, whose edges follow from seed, and a
// single edge or a pair with a number joins them.
func split(g impl.PairedGraph, pair int64, seed *uint64) impl.PairedGraph {
	first := int64(choose(seed, uint64(g.Nodes)))
	second := first + 1 + int64(choose(seed, uint64(g.Nodes-first)))
	place := func(node int64) int64 {
		switch {
		case node == first && choose(seed, 2) == 0:
			return second
		case node >= second:
			return node + 1
		}
		return node
	}
	out := impl.PairedGraph{Nodes: g.Nodes + 1}
	for _, edge := range g.Edges {
		out.Edges = append(out.Edges, impl.PairedEdge{A: place(edge.A), B: place(edge.B), Pair: edge.Pair})
	}
	joins := 1
	if pair >= 0 {
		joins = 2
	}
	for range joins {
		edge := impl.PairedEdge{A: first, B: second, Pair: pair}
		if choose(seed, 2) == 0 {
			edge.A, edge.B = second, first
		}
		out.Edges = slices.Insert(out.Edges, choose(seed, uint64(len(out.Edges)+1)), edge)
	}
	return out
}

// splitPoint returns a graph with so many nodes and at most so many edges that contracts to a point. The numbers of its pairs follow from
// seed.
func splitPoint(nodes, edges int, seed *uint64) impl.PairedGraph {
	g := impl.PairedGraph{Nodes: 1}
	for _, pair := range somePlaces(48, seed)[:nodes-1] {
		left := nodes - int(g.Nodes)
		if edges-len(g.Edges) <= left || choose(seed, 2) == 0 {
			pair = -1
		}
		g = split(g, pair, seed)
	}
	return g
}

// somePaired returns valid graphs that follow from seed: some that contract to a point, those with a changed edge, and others of any edges.
func somePaired(count int, seed *uint64) []impl.PairedGraph {
	var out []impl.PairedGraph
	for n := range count {
		limit := []uint64{5, 12, 33}[n%3]
		g := splitPoint(1+choose(seed, limit), 48, seed)
		out = append(out, g)
		other := copyPaired(g)
		for at := range other.Edges {
			if choose(seed, 6) == 0 {
				other.Edges[at].A = int64(choose(seed, uint64(g.Nodes)))
			}
		}
		out = append(out, other)
		out = append(out, anyPaired(1+choose(seed, limit), seed))
	}
	return out
}

// anyPaired returns a valid graph with so many nodes, whose edges follow from seed.
func anyPaired(nodes int, seed *uint64) impl.PairedGraph {
	out := impl.PairedGraph{Nodes: int64(nodes)}
	numbers := somePlaces(48, seed)
	for k := range choose(seed, 25) {
		pair := numbers[k]
		if choose(seed, 2) == 0 {
			pair = -1
		}
		for range 2 {
			edge := impl.PairedEdge{A: int64(choose(seed, uint64(nodes))), B: int64(choose(seed, uint64(nodes))), Pair: pair}
			out.Edges = slices.Insert(out.Edges, choose(seed, uint64(len(out.Edges)+1)), edge)
		}
	}
	return out
}
