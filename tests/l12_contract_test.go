package tests

import (
	"math"
	"slices"
	"testing"

	"loop.example/g00872/impl"
)

// shrunk is a graph, written out, with a number and the graph after a contraction, or "" if there is none.
type shrunk struct {
	graph  string
	number int64
	want   string
}

// checkShrunk compares the results of a function with those that are written out.
func checkShrunk(t *testing.T, name string, cases []shrunk, contract func(impl.PairedGraph, int64) (impl.PairedGraph, bool)) {
	t.Helper()
	for _, c := range cases {
		g := pairedOf(c.graph)
		if !impl.ValidPairedGraph(g) {
			t.Fatal("not valid", c.graph)
		}
		var want impl.PairedGraph
		if c.want != "" {
			want = pairedOf(c.want)
		}
		if got, ok := contract(g, c.number); ok != (c.want != "") || !samePaired(got, want) {
			t.Fatalf("%s of %s and %d = %v with%s\ninstead of %s", name, c.graph, c.number, ok, describePaired(got), c.want)
		}
		checkPaired(t, g)
	}
}

func TestContractEdgeWrittenOut(t *testing.T) {
	checkShrunk(t, "ContractEdge", []shrunk{
		{"2; 0 1", 0, "1;"}, {"2; 1 0", 0, "1;"}, {"3; 0 2, 2 1", 0, "2; 0 1"}, {"3; 2 0, 2 1", 0, "2; 0 1"}, {"3; 0 2, 1 2", 0, "2; 1 0"}, {"3; 0 2, 2 1", 1, "2; 0 1"}, {"3; 0 2, 1 2", 1, "2; 0 1"}, {"3; 2 0, 1 2", 1, "2; 1 0"},
		// Only the numbers above the greater node decrease.
		{"5; 1 3, 0 1, 2 0, 3 0, 4 0, 0 4, 3 4, 2 4", 0, "4; 0 1, 2 0, 1 0, 3 0, 0 3, 1 3, 2 3"}, {"5; 3 1, 0 1, 2 0, 3 0, 4 0, 0 4, 3 4, 2 4", 0, "4; 0 1, 2 0, 1 0, 3 0, 0 3, 1 3, 2 3"},
		{"5; 0 4, 1 4, 4 3, 2 3", 0, "4; 1 0, 0 3, 2 3"}, {"5; 4 3, 1 4, 3 4, 2 3", 0, "4; 1 3, 3 3, 2 3"}, {"5; 0 1, 1 2, 2 3, 3 4, 4 0", 0, "4; 0 1, 1 2, 2 3, 3 0"}, {"5; 1 0, 1 2, 2 3, 3 4, 4 0", 4, "4; 1 0, 1 2, 2 3, 3 0"},
		// The order of the edges and of their nodes is kept, the pairs too.
		{"5; 4 4, 0 4, 3 1, 1 3, 2 3, 4 2 7, 3 1 7, 3 1", 2, "4; 3 3, 0 3, 1 1, 2 1, 3 2 7, 1 1 7, 1 1"}, {"5; 4 4, 0 4, 3 1, 1 3, 2 3, 4 2 7, 3 1 7, 3 1", 7, "4; 3 3, 0 3, 1 1, 1 1, 2 1, 3 2 7, 1 1 7"},
		{"5; 4 4, 0 4, 3 1, 1 3, 2 3, 4 2 7, 3 1 7, 3 1", 1, "4; 0 0, 3 1, 1 3, 2 3, 0 2 7, 3 1 7, 3 1"}, {"4; 1 0 0, 2 0 0, 1 2, 3 3 47, 0 3 47", 2, "3; 1 0 0, 1 0 0, 2 2 47, 0 2 47"},
		// Equal edges: only the one with the index is removed, and the others become loops.
		{"2; 0 1, 0 1, 0 1", 1, "1; 0 0, 0 0"}, {"2; 0 1, 1 0", 0, "1; 0 0"}, {"3; 2 1, 1 2, 0 2", 1, "2; 1 1, 0 1"},
		// Loops, edges of pairs, and indices that no edge has.
		{"1; 0 0", 0, ""}, {"2; 0 1, 1 1", 1, ""}, {"2; 0 0, 0 1", 0, ""}, {"2; 0 1 0, 0 1 0", 0, ""}, {"2; 0 1 0, 0 1 0", 1, ""}, {"3; 0 1 47, 1 2, 2 0 47", 0, ""}, {"3; 0 1 47, 1 2, 2 0 47", 2, ""}, {"3; 0 1 47, 1 2, 2 0 47", 1, "2; 0 1 47, 1 0 47"},
		{"2; 0 1", 1, ""}, {"2; 0 1", -1, ""}, {"2; 0 1, 0 1", 2, ""}, {"2;", 0, ""}, {"1;", 0, ""}, {"0;", 0, ""}, {"0;", -1, ""}, {"2; 0 1", 1 << 32, ""}, {"2; 0 1", 256, ""}, {"2; 0 1", math.MaxInt64, ""}, {"2; 0 1", math.MinInt64, ""}, {"2; 0 1", -1 << 32, ""},
	}, impl.ContractEdge)
}

func TestContractPairWrittenOut(t *testing.T) {
	checkShrunk(t, "ContractPair", []shrunk{
		// In the same and in the opposite direction.
		{"2; 0 1 0, 0 1 0", 0, "1;"}, {"2; 1 0 0, 1 0 0", 0, "1;"}, {"2; 0 1 0, 1 0 0", 0, "1;"}, {"2; 1 0 47, 0 1 47", 47, "1;"}, {"3; 0 1 4, 1 0 4, 2 1", 4, "2; 1 0"}, {"3; 2 0 4, 2 1, 0 2 4", 4, "2; 0 1"}, {"3; 1 2, 2 0 4, 2 0 4", 4, "2; 1 0"},
		{"5; 1 3 2, 0 1, 2 0, 3 0, 4 0, 0 4, 3 1 2, 3 4, 2 4", 2, "4; 0 1, 2 0, 1 0, 3 0, 0 3, 1 3, 2 3"}, {"5; 4 4 1, 0 4, 3 1 8, 1 3, 2 3, 4 2 1, 3 1 8, 3 1", 8, "4; 3 3 1, 0 3, 1 1, 2 1, 3 2 1, 1 1"},
		// The other pairs stay, also between the same nodes.
		{"2; 0 1 5, 0 1 6, 0 1 5, 0 1 6", 5, "1; 0 0 6, 0 0 6"}, {"2; 0 1 5, 0 1 6, 0 1 5, 0 1 6", 6, "1; 0 0 5, 0 0 5"}, {"3; 0 2 5, 0 1 6, 2 0 5, 1 2 6, 2 2 0, 1 1 0", 5, "2; 0 1 6, 1 0 6, 0 0 0, 1 1 0"},
		{"2; 0 1 5, 1 0 6, 1 0 5, 0 0 6, 0 1, 1 0", 5, "1; 0 0 6, 0 0 6, 0 0, 0 0"},
		// Loops, one or two, and edges between different nodes, in any order.
		{"1; 0 0 3, 0 0 3", 3, ""}, {"2; 0 1 3, 0 0 3", 3, ""}, {"2; 0 0 3, 0 1 3", 3, ""}, {"2; 0 1 3, 1 1 3", 3, ""}, {"2; 1 1 3, 1 0 3", 3, ""}, {"2; 0 0 3, 1 1 3", 3, ""}, {"2; 1 1 3, 0 0 3", 3, ""}, {"2; 1 1 3, 1 1 3", 3, ""},
		{"3; 0 1 3, 0 2 3", 3, ""}, {"3; 0 1 3, 1 2 3", 3, ""}, {"3; 0 1 3, 2 1 3", 3, ""}, {"3; 0 1 3, 2 0 3", 3, ""}, {"3; 1 0 3, 2 0 3", 3, ""}, {"3; 1 0 3, 0 2 3", 3, ""}, {"3; 2 1 3, 0 2 3", 3, ""}, {"4; 0 1 3, 2 3 3", 3, ""}, {"4; 0 3 3, 1 2 3", 3, ""}, {"4; 0 2 3, 1 3 3", 3, ""},
		// Numbers that are no pair.
		{"2; 0 1", -1, ""}, {"2; 0 1, 0 1", -1, ""}, {"2; 0 1, 1 0", -1, ""}, {"2; 0 1 0, 0 1 0, 0 1, 0 1", -1, ""}, {"2; 0 1 0, 0 1 0", 1, ""}, {"2; 0 1 1, 0 1 1", 0, ""}, {"2; 0 1 1, 0 1 1", 2, ""}, {"2; 0 1 0, 0 1 0", -1, ""}, {"2; 0 1 0, 0 1 0", -2, ""}, {"2; 0 1 47, 0 1 47", 48, ""},
		{"2; 0 1 0, 0 1 0", 48, ""}, {"2; 0 1 0, 0 1 0", 1 << 32, ""}, {"2; 0 1 0, 0 1 0", 256, ""}, {"2; 0 1 0, 0 1 0", math.MinInt64, ""}, {"2; 0 1 47, 0 1 47", math.MaxInt64, ""}, {"0;", 0, ""}, {"1;", 0, ""}, {"2;", -1, ""},
	}, impl.ContractPair)
}

func TestContractFirstWrittenOut(t *testing.T) {
	first := func(g impl.PairedGraph, _ int64) (impl.PairedGraph, bool) { return impl.ContractFirst(g) }
	checkShrunk(t, "ContractFirst", []shrunk{
		{"2; 0 1", 0, "1;"}, {"3; 0 1, 1 2", 0, "2; 0 1"}, {"3; 1 2, 0 1", 0, "2; 0 1"}, {"3; 0 2, 2 1", 0, "2; 0 1"}, {"3; 0 1, 2 1", 0, "2; 1 0"}, {"2; 0 1 6, 0 1 6", 0, "1;"}, {"2; 1 0 6, 0 1 6", 0, "1;"},
		// Earlier edges are loops or belong to pairs that cannot be contracted.
		{"3; 1 1, 0 2, 1 2", 0, "2; 1 1, 1 0"}, {"3; 0 0, 2 2, 1 2, 0 1", 0, "2; 0 0, 1 1, 0 1"}, {"3; 0 1 4, 1 2 4, 0 2, 0 1", 0, "2; 0 1 4, 1 0 4, 0 1"}, {"3; 0 1 4, 0 2, 1 2 4, 0 1", 0, "2; 0 1 4, 1 0 4, 0 1"}, {"3; 0 1 4, 1 1 4, 2 1, 0 1", 0, "2; 0 1 4, 1 1 4, 0 1"},
		{"3; 1 1 4, 1 2, 1 2 4, 0 1", 0, "2; 1 1 4, 1 1 4, 0 1"}, {"2; 0 0 4, 0 1 5, 0 0 4, 0 1 5", 0, "1; 0 0 4, 0 0 4"}, {"3; 0 1 4, 0 2 5, 0 2 4, 2 0 5, 0 1", 0, "2; 0 1 4, 0 0 4, 0 1"}, {"3; 0 1 0, 1 2 1, 2 1 1, 0 2 0", 0, "2; 0 1 0, 0 1 0"},
		{"3; 0 0, 0 1 4, 1 2 4, 1 1 5, 1 2 5, 2 2, 2 1", 0, "2; 0 0, 0 1 4, 1 1 4, 1 1 5, 1 1 5, 1 1"},
		// A pair's first edge stands before a single edge; its second one before or behind it.
		{"3; 0 1 4, 1 2, 0 1 4", 0, "2; 0 1"}, {"3; 0 1 4, 1 0 4, 1 2", 0, "2; 0 1"}, {"3; 0 1 4, 1 2, 0 2, 1 0 4, 2 2", 0, "2; 0 1, 0 1, 1 1"}, {"3; 0 0, 2 1 4, 0 1, 0 2, 1 2 4", 0, "2; 0 0, 0 1, 0 1"},
		// A single edge stands before a pair, and one pair before another one with a smaller number.
		{"3; 1 2, 0 1 4, 0 1 4", 0, "2; 0 1 4, 0 1 4"}, {"3; 0 1 9, 1 2 3, 1 2 3, 0 1 9", 0, "2; 0 1 3, 0 1 3"}, {"3; 1 2 3, 0 1 9, 0 1 9, 1 2 3", 0, "2; 0 1 9, 0 1 9"},
		// Nothing can be contracted.
		{"0;", 0, ""}, {"1;", 0, ""}, {"2;", 0, ""}, {"48;", 0, ""}, {"1; 0 0", 0, ""}, {"3; 1 1, 2 2, 0 0, 1 1", 0, ""}, {"2; 0 1 4, 0 0 4", 0, ""}, {"3; 0 1 4, 1 2 4", 0, ""}, {"4; 0 1 4, 2 3 4, 1 1, 2 0 5, 2 1 5", 0, ""}, {"1; 0 0 4, 0 0 4", 0, ""}, {"2; 1 1 4, 0 0 4, 1 1", 0, ""},
	}, first)
}

// lastGraphs are graphs, written out, with the graphs in which contraction ends and the numbers of contractions.
var lastGraphs = []shrunk{
	{"0;", 0, "0;"}, {"1;", 0, "1;"}, {"2;", 0, "2;"}, {"48;", 0, "48;"}, {"1; 0 0", 0, "1; 0 0"}, {"1; 0 0 3, 0 0 3", 0, "1; 0 0 3, 0 0 3"}, {"3; 2 2, 0 1 5, 1 2 5", 0, "3; 2 2, 0 1 5, 1 2 5"},
	{"2; 0 1", 1, "1;"}, {"2; 0 1, 0 1", 1, "1; 0 0"}, {"3; 0 1, 1 2", 2, "1;"}, {"3; 0 1, 1 2, 2 0", 2, "1; 0 0"}, {"3; 1 0", 1, "2;"}, {"4; 2 3, 0 1", 2, "2;"}, {"5; 4 3, 2 3, 1 2, 0 1", 4, "1;"}, {"5; 0 4, 4 1, 1 3, 3 2", 4, "1;"},
	// A pair is ready as soon as other edges have been contracted.
	{"2; 0 1 0, 1 0 0", 1, "1;"}, {"3; 0 1 4, 0 2 4, 2 1", 2, "1;"}, {"4; 0 1 4, 0 2 4, 2 3 5, 1 3 5, 1 2", 3, "1;"}, {"4; 0 1 4, 0 2 4, 1 3 5, 2 3 5, 0 3", 1, "3; 0 1 4, 0 2 4, 1 0 5, 2 0 5"}, {"4; 0 1 4, 0 2 4, 2 3, 1 3, 0 0", 3, "1; 0 0"},
	{"4; 0 2 2, 0 3, 1 2 2, 2 3", 2, "2; 0 0 2, 1 0 2"}, {"4; 0 2, 0 3 3, 1 2, 1 3 3", 3, "1;"}, {"5; 0 2, 0 3 3, 1 2, 1 3 3, 2 4, 3 4", 4, "1; 0 0"}, {"4; 1 0 0, 2 1 1, 2 1 1, 3 0 0", 1, "3; 1 0 0, 2 0 0"},
	// Two pairs between the same nodes: only the first one is contracted.
	{"2; 0 1 5, 0 1 6, 0 1 5, 0 1 6", 1, "1; 0 0 6, 0 0 6"}, {"2; 0 1 6, 1 0 5, 0 1 5, 0 1 6", 1, "1; 0 0 5, 0 0 5"},
}

func TestContractAllWrittenOut(t *testing.T) {
	for _, c := range lastGraphs {
		g := pairedOf(c.graph)
		if got, count := impl.ContractAll(g); count != c.number || !samePaired(got, pairedOf(c.want)) {
			t.Fatalf("ContractAll of %s = %d with%s\ninstead of %d with %s", c.graph, count, describePaired(got), c.number, c.want)
		}
		checkPaired(t, g)
	}
}

// The way from a graph to a point, written out step by step.
func TestContractionStepByStep(t *testing.T) {
	// Two axioms and a tensor and a par of them beside another par, which is above a tensor.
	n := netOf("A, ~A, B, ~B, C, ~C, (A*B), (~A|~B), (C|~C), ((~A|~B)*(C|~C)); ax 0 1, par 1 3 7, ax 2 3, par 4 5 8, tensor 0 2 6, tensor 7 8 9, ax 4 5; 6 9")
	g, ok := impl.GraphOfNet(n)
	for _, want := range []string{
		"7; 0 4, 0 1 1, 2 4, 2 1 1, 6 3 3, 6 3 3, 1 5, 3 5", "6; 0 1 1, 2 0, 2 1 1, 5 3 3, 5 3 3, 1 4, 3 4", "5; 0 1 1, 0 1 1, 4 2 3, 4 2 3, 1 3, 2 3", "4; 3 1 3, 3 1 3, 0 2, 1 2", "3; 0 2, 1 2", "2; 1 0", "1;",
	} {
		if !ok || !samePaired(g, pairedOf(want)) {
			t.Fatalf("%v with%s\ninstead of %s", ok, describePaired(g), want)
		}
		if last, _ := impl.ContractAll(g); !isOnePoint(last) {
			t.Fatal("ContractAll ends in", last)
		}
		g, ok = impl.ContractFirst(g)
	}
	if ok || g.Nodes != 0 || len(g.Edges) > 0 {
		t.Fatal("ContractFirst of a point", g, ok)
	}
}

// Every graph of few nodes and edges, valid or not.
func TestAllSmallGraphs(t *testing.T) {
	found := map[[2]bool]int{}
	var visit func(g impl.PairedGraph, edges int, pairs []int64)
	visit = func(g impl.PairedGraph, edges int, pairs []int64) {
		found[[2]bool{isPaired(g), checkPaired(t, g)}]++
		if edges == 0 {
			return
		}
		eachPair(int(g.Nodes), func(a, b int64) {
			for _, pair := range pairs {
				visit(impl.PairedGraph{Nodes: g.Nodes, Edges: append(slices.Clone(g.Edges), impl.PairedEdge{A: a, B: b, Pair: pair})}, edges-1, pairs)
			}
		})
	}
	visit(impl.PairedGraph{Nodes: 0}, 2, []int64{-1, 0})
	visit(impl.PairedGraph{Nodes: 1}, 6, []int64{-1, 0, 1})
	visit(impl.PairedGraph{Nodes: 2}, 4, []int64{-1, 0, 47})
	visit(impl.PairedGraph{Nodes: 3}, 3, []int64{-1, 0, 1})
	visit(impl.PairedGraph{Nodes: 3}, 4, []int64{7})
	if found[[2]bool{true, true}] < 100 || found[[2]bool{true, false}] < 5000 || found[[2]bool{false, false}] < 10000 {
		t.Fatal("too few graphs", found)
	}
}

// Other graphs, up to the limits; all functions agree with the expectation.
func TestSomeGraphs(t *testing.T) {
	seed, found := uint64(151), map[bool]int{}
	for _, g := range somePaired(120, &seed) {
		for _, odd := range oddNumbers {
			if checkEdge(t, g, odd) && (odd < 0 || odd >= int64(len(g.Edges))) {
				t.Fatal("ContractEdge of an edge that is none", odd)
			}
		}
		for _, odd := range oddPairs {
			if checkPair(t, g, odd) {
				t.Fatal("ContractPair of a pair that is none", odd)
			}
		}
		found[checkPaired(t, g)]++
	}
	if found[true] < 120 || found[false] < 120 {
		t.Fatal("too few graphs", found)
	}
}

// Graphs that are made from a point by splitting nodes contract to a point, in any order, and each contraction takes one node away.
func TestSplitPoints(t *testing.T) {
	seed := uint64(152)
	for tries := range 300 {
		nodes := 1 + tries%48
		g := splitPoint(nodes, 48, &seed)
		if !impl.ValidPairedGraph(g) || len(g.Edges) > 48 {
			t.Fatalf("not valid:%s", describePaired(g))
		}
		if last, count := impl.ContractAll(g); !impl.IsPoint(last) || !isOnePoint(last) || count != int64(nodes-1) {
			t.Fatalf("ContractAll = %d with%s\nof%s", count, describePaired(last), describePaired(g))
		}
		if last := inAnyOrder(t, g, &seed); !impl.IsPoint(last) {
			t.Fatalf("contraction in another order ends in%s\nof%s", describePaired(last), describePaired(g))
		}
	}
}

// inAnyOrder contracts edges and pairs in an order that follows from seed, until none can be contracted, and returns the last graph.
func inAnyOrder(t *testing.T, g impl.PairedGraph, seed *uint64) impl.PairedGraph {
	t.Helper()
	for {
		var next []impl.PairedGraph
		for at, edge := range g.Edges {
			if out, ok := impl.ContractEdge(g, int64(at)); ok {
				next = append(next, out)
			}
			if out, ok := impl.ContractPair(g, edge.Pair); ok {
				next = append(next, out)
			}
		}
		if _, ok := impl.ContractFirst(g); ok != (len(next) > 0) {
			t.Fatalf("ContractFirst = %v although %d edges can be contracted, of%s", ok, len(next), describePaired(g))
		}
		if len(next) == 0 {
			return g
		}
		g = next[choose(seed, uint64(len(next)))]
		if !impl.ValidPairedGraph(g) {
			t.Fatalf("not valid:%s", describePaired(g))
		}
	}
}

// pairsOf returns the numbers of the pairs of a valid graph.
func pairsOf(g impl.PairedGraph) []int64 {
	return slices.DeleteFunc(inOrder(48), func(pair int64) bool { return len(edgesOfPair(g, pair)) == 0 })
}

// chosenEdges returns the edges of a valid graph of which one of each pair is chosen: the first one for 0, the second one for 1.
func chosenEdges(g impl.PairedGraph, choices []int64) []impl.Arc {
	left := shrinkingOf(g).left
	for k, pair := range pairsOf(g) {
		notChosen := edgesOfPair(g, pair)[1-choices[k]]
		left = slices.DeleteFunc(left, func(at int) bool { return at == notChosen })
	}
	var out []impl.Arc
	for _, at := range left {
		out = append(out, impl.Arc{From: g.Edges[at].A, To: g.Edges[at].B})
	}
	return out
}

// If a graph contracts to a point, every choice of one edge of each pair is a tree.
func TestPointsHaveTrees(t *testing.T) {
	seed, found := uint64(153), map[[2]bool]int{}
	for tries := range 900 {
		nodes := 2 + choose(&seed, 6)
		g := splitPoint(nodes, 2*nodes, &seed)
		if tries%3 > 0 {
			g.Edges[choose(&seed, uint64(len(g.Edges)))].A = int64(choose(&seed, uint64(nodes)))
		}
		trees := true
		for index := range int64(1) << len(pairsOf(g)) {
			trees = trees && faultIn(nodes, chosenEdges(g, switchingAt(index, len(pairsOf(g))))) == faultNone
		}
		last, _ := impl.ContractAll(g)
		if impl.IsPoint(last) && !trees {
			t.Fatalf("a point although there is a cycle or split, of%s", describePaired(g))
		}
		found[[2]bool{impl.IsPoint(last), trees}]++
	}
	if found[[2]bool{true, true}] < 300 || found[[2]bool{false, false}] < 200 {
		t.Fatal("too few graphs", found)
	}
}

// Each function has no result for a graph that is not valid, although the edge or the pair could be contracted otherwise.
func TestContractionOfBrokenGraphs(t *testing.T) {
	seed, visited := uint64(154), 0
	for _, g := range append(somePaired(20, &seed), pairedOf("2; 0 1, 0 1 0, 1 0 0"), pairedOf("3; 0 1 1, 0 1 1, 1 2, 0 0")) {
		brokenPaired(g, func(broken impl.PairedGraph) {
			if isPaired(broken) {
				t.Fatalf("valid:%s", describePaired(broken))
			}
			checkNoPaired(t, broken)
			for at, edge := range broken.Edges {
				_, edgeOk := impl.ContractEdge(broken, int64(at))
				if _, pairOk := impl.ContractPair(broken, edge.Pair); edgeOk || pairOk {
					t.Fatalf("a contraction of the edge %d of%s", at, describePaired(broken))
				}
			}
			visited++
		})
	}
	if visited < 10000 {
		t.Fatal("too few graphs", visited)
	}
}

// brokenPaired calls visit with graphs that differ from a valid one in one thing, each of which makes it invalid.
func brokenPaired(g impl.PairedGraph, visit func(impl.PairedGraph)) {
	try := func(change func(*impl.PairedGraph)) {
		out := copyPaired(g)
		change(&out)
		visit(out)
	}
	for _, nodes := range []int64{-1, 49, 1<<32 + g.Nodes, math.MinInt64, math.MaxInt64} {
		try(func(out *impl.PairedGraph) { out.Nodes = nodes })
	}
	for at, edge := range g.Edges {
		for _, end := range []int64{-1, g.Nodes, 48, 1<<32 + edge.A, math.MinInt64, math.MaxInt64} {
			try(func(out *impl.PairedGraph) { out.Edges[at].A = end })
			try(func(out *impl.PairedGraph) { out.Edges[at].B = end })
		}
		for _, pair := range oddPairs {
			try(func(out *impl.PairedGraph) { out.Edges[at].Pair = pair })
		}
		for pair := range int64(48) {
			// One edge of a pair, or three.
			if pair != edge.Pair {
				try(func(out *impl.PairedGraph) { out.Edges[at].Pair = pair })
			}
		}
		if edge.Pair >= 0 {
			try(func(out *impl.PairedGraph) { out.Edges[at].Pair = -1 })
			try(func(out *impl.PairedGraph) { out.Edges = slices.Delete(out.Edges, at, at+1) })
			try(func(out *impl.PairedGraph) { out.Edges = slices.Insert(out.Edges, at, edge) })
		}
	}
	try(func(out *impl.PairedGraph) { out.Edges = append(out.Edges, make([]impl.PairedEdge, 1)...) })
	try(func(out *impl.PairedGraph) { out.Edges = slices.Repeat([]impl.PairedEdge{{Pair: -1}}, 49) })
	try(func(out *impl.PairedGraph) {
		out.Edges = append(out.Edges, slices.Repeat([]impl.PairedEdge{{Pair: -1}}, 49-len(g.Edges))...)
	})
}
