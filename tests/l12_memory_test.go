package tests

import (
	"math"
	"slices"
	"sync"
	"testing"

	"loop.example/g00872/impl"
)

// guardedPaired returns a graph with filled spare capacity behind its edges, and a function that reports whether anything changed.
func guardedPaired(g impl.PairedGraph) (impl.PairedGraph, func() bool) {
	whole := append(slices.Clone(g.Edges), slices.Repeat([]impl.PairedEdge{{A: spare, B: spare, Pair: spare}}, 60)...)
	before := slices.Clone(whole)
	return impl.PairedGraph{Nodes: g.Nodes, Edges: whole[:len(g.Edges)]}, func() bool { return !slices.Equal(whole, before) }
}

// overwriteEdges changes a list and the spare capacity behind it.
func overwriteEdges(list []impl.PairedEdge) {
	for whole, at := list[:cap(list)], 0; at < cap(list); at++ {
		whole[at] = impl.PairedEdge{A: spare, B: spare, Pair: spare}
	}
}

// contractions returns all graphs that the functions of chapter 12 return for a graph, its edges and its pairs.
func contractions(g impl.PairedGraph) []impl.PairedGraph {
	first, _ := impl.ContractFirst(g)
	last, _ := impl.ContractAll(g)
	out := []impl.PairedGraph{first, last}
	for at, edge := range g.Edges[:min(len(g.Edges), 50)] {
		single, _ := impl.ContractEdge(g, int64(at))
		pair, _ := impl.ContractPair(g, edge.Pair)
		out = append(out, single, pair)
	}
	return out
}

func copyAllPaired(list []impl.PairedGraph) []impl.PairedGraph {
	var out []impl.PairedGraph
	for _, g := range list {
		out = append(out, copyPaired(g))
	}
	return out
}

func sameAllPaired(a, b []impl.PairedGraph) bool { return slices.EqualFunc(a, b, samePaired) }

// No function changes a graph, and no result shares memory with a graph or with another result, those of the same call with the same
// arguments included. Without a contraction ContractAll returns a copy.
func TestContractionsUnshared(t *testing.T) {
	seed, found := uint64(171), map[bool]int{}
	graphs := append(somePaired(12, &seed), pairedOf("1;"), pairedOf("0;"), pairedOf("2; 0 0, 1 1"), pairedOf("3; 0 1 4, 1 2 4"), pairedOf("2; 0 1 4"), pairedOf("2; 0 1, 0 2"), pairedOf("2; 0 1 -2"))
	for _, plain := range graphs {
		g, changed := guardedPaired(plain)
		checkPaired(t, g)
		first := contractions(g)
		want := copyAllPaired(first)
		again := contractions(g)
		if changed() {
			t.Fatalf("an argument is changed:%s", describePaired(plain))
		}
		for at := range first {
			overwriteEdges(first[at].Edges)
			// Those before this one are overwritten, and all others kept.
			if changed() || !sameAllPaired(first[at+1:], want[at+1:]) || !sameAllPaired(again, want) || !sameAllPaired(contractions(g)[at:], want[at:]) {
				t.Fatalf("a result shares memory with something:%s", describePaired(plain))
			}
		}
		overwriteEdges(g.Edges)
		if !sameAllPaired(again, want) {
			t.Fatalf("a result changes with an argument:%s", describePaired(plain))
		}
		found[isPaired(plain)]++
	}
	if found[true] < 30 || found[false] < 3 {
		t.Fatal("too few graphs", found)
	}
}

// GraphOfNet and CorrectByContraction change no net, and the graph shares no memory with it or with another graph.
func TestGraphsOfNetsUnshared(t *testing.T) {
	nets := slices.Concat(netsOfMemory(), []impl.Net{parChains(10), parChains(22), oneFailing(6, 20), {}}, correctNets()[:60])
	for _, plain := range nets {
		for _, guard := range []func(impl.Net) (impl.Net, func() bool){guardedNet, packedNet} {
			n, changed := guard(plain)
			checkNetGraph(t, n)
			first, _ := impl.GraphOfNet(n)
			want := copyPaired(first)
			again, _ := impl.GraphOfNet(n)
			overwriteEdges(first.Edges)
			third, _ := impl.GraphOfNet(n)
			if changed() || !samePaired(again, want) || !samePaired(third, want) {
				t.Fatalf("GraphOfNet changes its argument or shares memory:%s", describeNet(plain))
			}
			overwriteNet(n)
			if !samePaired(again, want) || !samePaired(third, want) {
				t.Fatalf("the graph changes with the net:%s", describeNet(plain))
			}
		}
	}
}

// Lists of many elements and extreme numbers: every function returns, and there are no results for what is no graph or no net.
func TestContractionOfGreatArguments(t *testing.T) {
	const many = 1 << 18
	extremes := []int64{math.MaxInt64, math.MinInt64, math.MaxInt64 - 1, math.MinInt64 + 1, -1, 48, 49, many}
	for _, list := range [][]impl.PairedEdge{
		make([]impl.PairedEdge, many), slices.Repeat([]impl.PairedEdge{{A: 0, B: 1, Pair: -1}}, many), slices.Repeat([]impl.PairedEdge{{A: 0, B: 1, Pair: 3}, {A: 0, B: 1, Pair: 4}}, many), slices.Repeat([]impl.PairedEdge{{A: math.MaxInt64, B: math.MinInt64, Pair: math.MinInt64}}, many),
	} {
		for _, nodes := range append(extremes, 0, 1, 2, 47) {
			checkNoPaired(t, impl.PairedGraph{Nodes: nodes, Edges: list})
		}
	}
	for _, odd := range extremes {
		for _, nodes := range append(extremes, 0, 1, 2, 47) {
			for _, edge := range []impl.PairedEdge{{A: odd, B: 0, Pair: -1}, {A: 0, B: odd, Pair: -1}, {A: odd, B: odd, Pair: odd}, {A: 0, B: 0, Pair: odd}} {
				checkPaired(t, impl.PairedGraph{Nodes: nodes, Edges: []impl.PairedEdge{edge}})
				checkPaired(t, impl.PairedGraph{Nodes: nodes, Edges: []impl.PairedEdge{edge, edge}})
			}
		}
		g := pairedOf("3; 0 1, 1 2 47, 2 1 47, 0 2")
		checkEdge(t, g, odd)
		checkPair(t, g, odd)
	}
	one := netOf("A, ~A, (A|~A); ax 0 1, par 0 1 2; 2")
	long := slices.Repeat([]int64{12}, many)
	for _, n := range []impl.Net{
		{Wires: make([][]int64, many)}, {Links: make([]impl.Link, many)}, {Concl: make([]int64, many)}, {Wires: slices.Repeat(one.Wires, many)}, {Links: slices.Repeat([]impl.Link{{Kind: par}}, many)},
		{Wires: one.Wires, Links: slices.Repeat(one.Links, many), Concl: one.Concl}, {Wires: one.Wires, Links: one.Links, Concl: slices.Repeat(one.Concl, many)}, {Wires: [][]int64{long, long, long}, Links: one.Links, Concl: one.Concl},
		{Wires: one.Wires, Links: []impl.Link{{Kind: par, A: math.MinInt64, B: math.MaxInt64, C: math.MinInt64}}, Concl: one.Concl}, {Wires: one.Wires, Links: one.Links, Concl: []int64{math.MaxInt64}},
	} {
		if g, ok := impl.GraphOfNet(n); ok || g.Nodes != 0 || len(g.Edges) > 0 || impl.CorrectByContraction(n) {
			t.Fatal("a graph of a great net")
		}
	}
}

// Graphs at the limits contract quickly, many times.
func TestContractionAtTheLimits(t *testing.T) {
	seed := uint64(172)
	for range 200 {
		g := splitPoint(48, 48, &seed)
		for range 5 {
			if last, count := impl.ContractAll(g); !impl.IsPoint(last) || count != 47 {
				t.Fatalf("ContractAll = %d of%s", count, describePaired(g))
			}
		}
	}
	// 24 pairs between 25 nodes, one after the other: each is ready only after the one before it.
	chain := impl.PairedGraph{Nodes: 25}
	for k := range int64(24) {
		chain.Edges = append(chain.Edges, impl.PairedEdge{A: 0, B: k + 1, Pair: 47 - k}, impl.PairedEdge{A: k, B: k + 1, Pair: 47 - k})
	}
	slices.Reverse(chain.Edges)
	if !checkPaired(t, chain) {
		t.Fatal("a chain of pairs does not contract")
	}
	full := impl.PairedGraph{Nodes: 48, Edges: slices.Repeat([]impl.PairedEdge{{A: 47, B: 0, Pair: -1}}, 48)}
	if last, count := impl.ContractAll(full); count != 1 || last.Nodes != 47 || len(last.Edges) != 47 || checkPaired(t, full) {
		t.Fatal("ContractAll of equal edges", count, last)
	}
}

// Calls at the same time do not disturb each other.
func TestContractionsAtTheSameTime(t *testing.T) {
	seed := uint64(173)
	graphs := somePaired(12, &seed)
	nets := correctNets()[:len(graphs)]
	faults := make([]bool, len(graphs))
	var group sync.WaitGroup
	for at, g := range graphs {
		want := contractions(g)
		graph, _ := wantGraph(nets[at])
		group.Go(func() {
			for range 20 {
				got, ok := impl.GraphOfNet(nets[at])
				if !ok || !samePaired(got, graph) || !impl.CorrectByContraction(nets[at]) || !sameAllPaired(contractions(g), want) {
					faults[at] = true
				}
			}
		})
	}
	group.Wait()
	if at := slices.Index(faults, true); at >= 0 {
		t.Fatalf("results differ at the same time, of%s", describePaired(graphs[at]))
	}
}
