package tests

import (
	"math"
	"slices"
	"testing"

	"loop.example/g00872/impl"
)

// The examples of the document.
func TestExamplesOfContraction(t *testing.T) {
	n := netOf("A, ~A, (A|~A); ax 0 1, par 0 1 2; 2")
	g, ok := impl.GraphOfNet(n)
	if !ok || !samePaired(g, impl.PairedGraph{Nodes: 2, Edges: []impl.PairedEdge{{A: 0, B: 1, Pair: 1}, {A: 0, B: 1, Pair: 1}}}) || !impl.ValidPairedGraph(g) {
		t.Fatal("GraphOfNet", g, ok)
	}
	if impl.ValidPairedGraph(impl.PairedGraph{Nodes: 2, Edges: g.Edges[:1]}) {
		t.Fatal("ValidPairedGraph of one edge of a pair")
	}
	three := impl.PairedGraph{Nodes: 3, Edges: []impl.PairedEdge{{A: 0, B: 2, Pair: -1}, {A: 2, B: 1, Pair: -1}}}
	if last, ok := impl.ContractEdge(three, 0); !ok || !samePaired(last, impl.PairedGraph{Nodes: 2, Edges: []impl.PairedEdge{{A: 0, B: 1, Pair: -1}}}) {
		t.Fatal("ContractEdge", last, ok)
	}
	point := impl.PairedGraph{Nodes: 1}
	if last, ok := impl.ContractPair(g, 1); !ok || !samePaired(last, point) || !impl.IsPoint(last) {
		t.Fatal("ContractPair", last, ok)
	}
	if last, ok := impl.ContractFirst(g); !ok || !samePaired(last, point) {
		t.Fatal("ContractFirst", last, ok)
	}
	if last, count := impl.ContractAll(g); count != 1 || !samePaired(last, point) {
		t.Fatal("ContractAll", last, count)
	}
	if impl.IsPoint(impl.PairedGraph{}) || !impl.IsPoint(point) {
		t.Fatal("IsPoint")
	}
	joined := netOf("A, ~A, (A*~A); ax 0 1, tensor 0 1 2; 2")
	if impl.CorrectByContraction(joined) || !impl.CorrectByContraction(n) {
		t.Fatal("CorrectByContraction")
	}
	g, _ = impl.GraphOfNet(joined)
	if last, count := impl.ContractAll(g); count != 1 || !samePaired(last, impl.PairedGraph{Nodes: 1, Edges: []impl.PairedEdge{{Pair: -1}}}) {
		t.Fatal("ContractAll of the outputs of an axiom joined by a tensor", last, count)
	}
}

// The graphs of nets, written out: the edges stand in the order of the wires, whatever the order of the links and of their inputs is.
func TestGraphsOfNetsWrittenOut(t *testing.T) {
	for net, want := range map[string]string{
		"; ; ": "0;", "A, ~A; ax 0 1; 0 1": "1;", "~A, A; ax 1 0; 1 0": "1;", "A, ~A, B, ~B; ax 0 1, ax 2 3; 3 1 0 2": "2;", "A, ~A; ax 0 1, cut 0 1; ": "2; 0 1, 0 1", "A, ~A; cut 1 0, ax 0 1; ": "2; 1 0, 1 0",
		"A, ~A, (A*~A); ax 0 1, tensor 0 1 2; 2": "2; 0 1, 0 1", "A, ~A, (~A*A); ax 0 1, tensor 1 0 2; 2": "2; 0 1, 0 1", "(A|~A), A, ~A; par 1 2 0, ax 2 1; 0": "2; 1 0 0, 1 0 0",
		"A, ~A, B, ~B, (A*B), (~A|~B); ax 0 1, ax 2 3, tensor 0 2 4, par 1 3 5; 4 5": "4; 0 2, 0 3 3, 1 2, 1 3 3",
		"(A*A), (~A|~A), A, A, ~A, ~A; tensor 2 3 0, par 5 4 1, ax 4 2, ax 3 5; 1 0": "4; 2 0, 3 0, 2 1 1, 3 1 1",
		cycleFirst:  "4; 0 2 2, 0 3, 1 2 2, 2 3",
		cycleSecond: "4; 0 2 2, 0 3, 1 2 2, 2 3",
		"((A|~A)|B), (A|~A), A, ~A, B, ~B; par 1 4 0, par 2 3 1, ax 2 3, ax 4 5; 5 0":                               "4; 1 0 0, 2 1 1, 2 1 1, 3 0 0",
		"A, ~A, (A|~A), (~A*A), A, ~A; ax 0 1, par 0 1 2, ax 4 5, tensor 5 4 3, cut 2 3; ":                          "5; 0 1 1, 0 1 1, 1 4, 3 4, 2 3, 2 3",
		"A, ~A, (A|~A), B, ~B, ((A|~A)*B); ax 0 1, par 0 1 2, ax 3 4, tensor 2 3 5; 4 5":                            "4; 0 1 1, 0 1 1, 1 3, 2 3",
		"(A*B), (~A|~B), ((A*B)|(~A|~B)), C, ~C, (C|~C); par 3 4 5, ax 0 1, ax 3 4, par 0 1 2; 5 2":                 "4; 1 3 3, 1 3 3, 2 0 0, 2 0 0",
		"A, ~A, B, ~B, (A*B), (~A|~B); ax 0 1, ax 2 3, tensor 0 2 4, par 1 3 5, cut 4 5; ":                          "5; 0 2, 0 3 3, 1 2, 1 3 3, 2 4, 3 4",
		"~A, A, (~B|(~A|A)), B, (~A|A), ~B, ((~B|(~A|A))*B); tensor 2 3 6, par 5 4 2, ax 3 5, par 0 1 4, ax 1 0; 6": "5; 4 3 3, 4 3 3, 1 0, 2 0, 3 1 1, 2 1 1",
	} {
		n := netOf(net)
		if got, ok := impl.GraphOfNet(n); !ok || !samePaired(got, pairedOf(want)) {
			t.Fatalf("GraphOfNet = %v with%s\ninstead of %s\nof %s", ok, describePaired(got), want, net)
		}
		checkNetGraph(t, n)
	}
}

// Every valid net has a valid graph, with one edge for each wire that is no conclusion and a pair for each par link.
func TestGraphsOfValidNets(t *testing.T) {
	edges, pairs := map[int]int{}, map[int]int{}
	for _, n := range slices.Concat(someNets(), someAtomicNets(), []impl.Net{parChains(10), parChains(22), oneFailing(10, 1000)}) {
		checkNetGraph(t, n)
		g, ok := impl.GraphOfNet(n)
		if !ok || !impl.ValidPairedGraph(g) || g.Nodes != int64(len(n.Links)) || len(g.Edges) != len(n.Wires)-len(n.Concl) {
			t.Fatalf("GraphOfNet = %v with%s\nof%s", ok, describePaired(g), describeNet(n))
		}
		at, paired := 0, map[int64]int{}
		for wire := range int64(len(n.Wires)) {
			to := impl.TargetOf(n, wire)
			if to == -1 {
				continue
			}
			edge := g.Edges[at]
			if edge.A != impl.SourceOf(n, wire) || edge.B != to || (edge.Pair == to) != (n.Links[to].Kind == par) || edge.Pair != to && edge.Pair != -1 {
				t.Fatalf("GraphOfNet has the edge %v for the wire %d, of%s", edge, wire, describeNet(n))
			}
			paired[edge.Pair]++
			at++
		}
		for _, k := range impl.ParLinks(n) {
			if paired[k] != 2 {
				t.Fatalf("GraphOfNet has %d edges to the par link %d, of%s", paired[k], k, describeNet(n))
			}
		}
		edges[len(g.Edges)]++
		pairs[len(impl.ParLinks(n))]++
	}
	if edges[0] < 20 || edges[48] < 1 || pairs[0] < 50 || pairs[1] < 50 || pairs[22] < 1 {
		t.Fatal("too few nets", edges, pairs)
	}
}

// A net that is not valid has no graph and is not correct, whatever the reason is.
func TestGraphsOfBrokenNets(t *testing.T) {
	for _, n := range brokenNets() {
		if g, ok := impl.GraphOfNet(n); ok || g.Nodes != 0 || len(g.Edges) > 0 || impl.CorrectByContraction(n) {
			t.Fatalf("GraphOfNet = %v with%s\nof%s", ok, describePaired(g), describeNet(n))
		}
	}
	found := map[bool]int{}
	for _, n := range append(smallNets(6), netOf(cycleFirst), netOf(joinedTwice)) {
		changedNets(n, func(changed impl.Net) {
			checkNetGraph(t, changed)
			found[isNet(changed)]++
		})
	}
	if found[true] < 100 || found[false] < 500 {
		t.Fatal("too few nets", found)
	}
}

// wantValid compares ValidPairedGraph with what is given, and the other functions with the expectation.
func wantValid(t *testing.T, g impl.PairedGraph, valid bool) {
	t.Helper()
	if isPaired(g) != valid || impl.ValidPairedGraph(g) != valid {
		t.Fatalf("ValidPairedGraph = %v of%s", impl.ValidPairedGraph(g), describePaired(g))
	}
	checkPaired(t, g)
}

// The numbers of nodes from 0 to 48, and others.
func TestNodesOfGraphs(t *testing.T) {
	for nodes := range int64(49) {
		wantValid(t, impl.PairedGraph{Nodes: nodes}, true)
		if impl.IsPoint(impl.PairedGraph{Nodes: nodes, Edges: []impl.PairedEdge{}}) != (nodes == 1) {
			t.Fatal("IsPoint without edges", nodes)
		}
	}
	for _, nodes := range slices.Concat(oddNumbers, oddSymbols, []int64{49, 50, 96, 1<<32 + 48}) {
		if nodes >= 0 && nodes <= 48 {
			continue
		}
		wantValid(t, impl.PairedGraph{Nodes: nodes}, false)
		wantValid(t, impl.PairedGraph{Nodes: nodes, Edges: []impl.PairedEdge{{A: 0, B: 0, Pair: -1}}}, false)
		wantValid(t, impl.PairedGraph{Nodes: nodes, Edges: []impl.PairedEdge{{A: nodes, B: nodes, Pair: -1}}}, false)
		wantValid(t, impl.PairedGraph{Nodes: nodes, Edges: []impl.PairedEdge{{A: nodes - 1, B: 0, Pair: -1}}}, false)
	}
}

// Both ends of an edge are nodes.
func TestEndsOfEdges(t *testing.T) {
	for _, nodes := range []int64{0, 1, 2, 3, 47, 48} {
		for _, end := range slices.Concat(oddNumbers, oddSymbols, []int64{0, 1, 2, 46, 47, nodes - 1, nodes, nodes + 1}) {
			valid := end >= 0 && end < nodes
			for _, edge := range []impl.PairedEdge{{A: end, B: 0, Pair: -1}, {A: 0, B: end, Pair: -1}, {A: end, B: end, Pair: -1}} {
				last := max(nodes-1, 0)
				wantValid(t, impl.PairedGraph{Nodes: nodes, Edges: []impl.PairedEdge{edge}}, valid)
				wantValid(t, impl.PairedGraph{Nodes: nodes, Edges: []impl.PairedEdge{{A: last, B: 0, Pair: -1}, edge, {A: 0, B: last, Pair: -1}}}, valid)
				edge.Pair = 47
				wantValid(t, impl.PairedGraph{Nodes: nodes, Edges: []impl.PairedEdge{edge, {A: 0, B: last, Pair: 47}}}, valid)
				wantValid(t, impl.PairedGraph{Nodes: nodes, Edges: []impl.PairedEdge{{A: 0, B: last, Pair: 47}, edge}}, valid)
			}
		}
	}
}

// A number from 0 to 47 has no edge or two; -1 has any number of them, and no other number occurs.
func TestPairsOfEdges(t *testing.T) {
	for _, pair := range append(inOrder(48), append(oddPairs, -1)...) {
		for count := range 7 {
			for _, nodes := range []int64{1, 2, 48} {
				g := impl.PairedGraph{Nodes: nodes}
				for k := range count {
					g.Edges = append(g.Edges, impl.PairedEdge{A: int64(k) % nodes, B: nodes - 1, Pair: pair})
				}
				valid := count == 0 || pair == -1 || count == 2 && pair >= 0 && pair < 48
				wantValid(t, g, valid)
				// Other edges between them change nothing.
				for _, other := range []int64{-1, 5, 0, 47} {
					if other != pair {
						more := copyPaired(g)
						more.Edges = slices.Insert(more.Edges, count/2, impl.PairedEdge{Pair: other})
						more.Edges = append(more.Edges, impl.PairedEdge{Pair: other})
						wantValid(t, more, valid)
					}
				}
			}
		}
	}
	// As many edges as for two pairs, but one of one and three of the other number.
	for _, text := range []string{"2; 0 1 3, 0 1 4, 0 1 4, 0 1 4", "2; 0 1 4, 0 1 4, 0 1 4, 0 1 3", "2; 0 1 0, 0 1 47", "2; 0 1 0, 0 1 0, 0 1 0, 0 1 0", "2; 0 1 1, 0 1 2, 0 1 3, 0 1 1", "1; 0 0 7, 0 0 7, 0 0 8", "1; 0 0 0", "1; 0 0 0, 0 0"} {
		wantValid(t, pairedOf(text), false)
	}
	for _, text := range []string{"2; 0 1 3, 0 1 4, 0 1 4, 0 1 3", "2; 0 1 4, 0 1 4, 0 1 3, 0 1 3", "2; 0 1 0, 1 0 0, 0 1 47, 0 0 47", "1; 0 0 7, 0 0 7, 0 0", "1; 0 0, 0 0, 0 0"} {
		wantValid(t, pairedOf(text), true)
	}
}

// At most 48 edges, whether they are single, pairs, or both.
func TestNumberOfEdges(t *testing.T) {
	for _, count := range []int{0, 1, 2, 46, 47, 48, 49, 50, 51, 96, 97, 1000} {
		for _, nodes := range []int64{1, 2, 48} {
			var single, paired, mixed impl.PairedGraph
			for k := range int64(count) {
				a, b := k%nodes, (k+1)%nodes
				single.Edges = append(single.Edges, impl.PairedEdge{A: a, B: b, Pair: -1})
				paired.Edges = append(paired.Edges, impl.PairedEdge{A: a, B: b, Pair: k / 2 % 48})
				mixed.Edges = append(mixed.Edges, impl.PairedEdge{A: a, B: b, Pair: max(-1, 4-k/2)})
			}
			single.Nodes, paired.Nodes, mixed.Nodes = nodes, nodes, nodes
			wantValid(t, single, count <= 48)
			wantValid(t, paired, count <= 48 && count%2 == 0)
			wantValid(t, mixed, count <= 48 && (count%2 == 0 || count > 10))
		}
	}
}

// A point has one node and no edge.
func TestPoints(t *testing.T) {
	for text, want := range map[string]bool{
		"0;": false, "1;": true, "2;": false, "48;": false, "1; 0 0": false, "1; 0 0, 0 0": false, "1; 0 0 3, 0 0 3": false, "2; 0 1": false, "2; 0 1 0, 0 1 0": false, "-1;": false, "1; 0 0 0": false, "1; 0 1": false, "0; 0 0": false,
	} {
		if impl.IsPoint(pairedOf(text)) != want {
			t.Fatal("IsPoint", text)
		}
	}
	for _, nodes := range []int64{-1, 1<<32 + 1, 1<<8 + 1, -1<<32 + 1, math.MaxInt64, math.MinInt64, math.MinInt64 + 1} {
		if impl.IsPoint(impl.PairedGraph{Nodes: nodes}) {
			t.Fatal("IsPoint", nodes)
		}
	}
	if !impl.IsPoint(impl.PairedGraph{Nodes: 1, Edges: make([]impl.PairedEdge, 0, 9)}) || impl.IsPoint(impl.PairedGraph{Nodes: 1, Edges: make([]impl.PairedEdge, 1000)}) {
		t.Fatal("IsPoint of long lists")
	}
}
