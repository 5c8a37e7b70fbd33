package tests

import (
	"math"
	"slices"
	"testing"

	"loop.example/g00872/impl"
)

// oddChoices are no elements of a switching; some look like one when they are cut to fewer bits.
var oddChoices = []int64{-1, 2, 3, -2, 10, 256, 257, 1 << 32, 1<<32 + 1, -1 << 32, math.MaxInt64, math.MinInt64, math.MinInt64 + 1}

func TestConstantsOfSwitchings(t *testing.T) {
	wantList(t, "MaxPairs, FaultCycle, FaultSplit", []int64{impl.MaxPairs, impl.FaultCycle, impl.FaultSplit}, []int64{10, faultCycle, faultSplit})
}

// The examples of the document.
func TestExamplesOfSwitchings(t *testing.T) {
	n := netOf("A, ~A, (A|~A); ax 0 1, par 0 1 2; 2")
	wantList(t, "ParLinks", impl.ParLinks(n), []int64{1})
	if count := impl.SwitchingCount(n); count != 2 {
		t.Fatal("SwitchingCount", count)
	}
	for choice, want := range []impl.Arc{{Wire: 0, From: 0, To: 1}, {Wire: 1, From: 0, To: 1}} {
		if graph, ok := impl.SwitchGraph(n, []int64{int64(choice)}); !ok || !slices.Equal(graph, []impl.Arc{want}) {
			t.Fatal("SwitchGraph", choice, graph, ok)
		}
		if !impl.SwitchingIsTree(n, []int64{int64(choice)}) {
			t.Fatal("SwitchingIsTree", choice)
		}
	}
	three := netOf("A, ~A, (A|~A), B, ~B, (B|~B), C, ~C, (C|~C); ax 0 1, par 0 1 2, ax 3 4, par 3 4 5, ax 6 7, par 6 7 8; 2 5 8")
	if switching, ok := impl.SwitchingOf(three, 6); !ok || !slices.Equal(switching, []int64{0, 1, 1}) {
		t.Fatal("SwitchingOf", switching, ok)
	}
	if index, fault := impl.FailingSwitching(netOf("A, ~A, B, ~B; ax 0 1, ax 2 3; 0 1 2 3")); index != 0 || fault != impl.FaultSplit {
		t.Fatal("FailingSwitching", index, fault)
	}
	if impl.CorrectBySwitchings(netOf("A, ~A, (A*~A); ax 0 1, tensor 0 1 2; 2")) {
		t.Fatal("CorrectBySwitchings")
	}
	for path, ends := range map[[2]int64][]int64{{0, 1}: {0, 1}, {1, 1}: {1}, {1, 0}: {1, 0}, {0, 0}: {0}} {
		if got, ok := impl.SwitchingPath(n, []int64{0}, path[0], path[1]); !ok || !slices.Equal(got, ends) {
			t.Fatal("SwitchingPath", path, got, ok)
		}
	}
}

// The empty net has one switching, whose graph has no node and is no tree. A single axiom has one, whose graph has a node without arcs.
func TestSwitchingsWithoutParLinks(t *testing.T) {
	for text, correct := range map[string]bool{
		"; ; ": false, "A, ~A; ax 0 1; 0 1": true, "A, ~A; ax 0 1, cut 0 1; ": false, "A, ~A, B, ~B, (A*B); ax 0 1, ax 2 3, tensor 0 2 4; 1 3 4": true, "A, ~A, (A*~A); ax 0 1, tensor 0 1 2; 2": false,
	} {
		n := netOf(text)
		if list := impl.ParLinks(n); len(list) > 0 || impl.SwitchingCount(n) != 1 || impl.CorrectBySwitchings(n) != correct || impl.SwitchingIsTree(n, nil) != correct {
			t.Fatal("a net without par links", text, list, impl.SwitchingCount(n))
		}
		for _, none := range [][]int64{nil, {}} {
			if graph, ok := impl.SwitchGraph(n, none); !ok || len(graph) != len(n.Wires)-len(n.Concl) {
				t.Fatal("SwitchGraph", text, graph, ok)
			}
		}
		if switching, ok := impl.SwitchingOf(n, 0); !ok || len(switching) > 0 {
			t.Fatal("SwitchingOf", text, switching, ok)
		}
		for _, other := range [][]int64{{0}, {1}, {0, 0}} {
			checkNoGraph(t, n, other)
		}
		for _, index := range []int64{1, 2, -1, math.MaxInt64, math.MinInt64} {
			checkIndex(t, n, index)
		}
	}
	if path, ok := impl.SwitchingPath(netOf("; ; "), nil, 0, 0); ok || len(path) > 0 {
		t.Fatal("SwitchingPath of the empty net", path, ok)
	}
}

// A cut of both outputs of one axiom: two arcs between two links are a cycle, in either order of the links and of the inputs.
func TestGraphsWithTwoArcsBetweenTwoLinks(t *testing.T) {
	for text, want := range map[string][]impl.Arc{
		"A, ~A; ax 0 1, cut 0 1; ":                                  {{Wire: 0, From: 0, To: 1}, {Wire: 1, From: 0, To: 1}},
		"A, ~A; ax 1 0, cut 0 1; ":                                  {{Wire: 0, From: 0, To: 1}, {Wire: 1, From: 0, To: 1}},
		"A, ~A; cut 1 0, ax 0 1; ":                                  {{Wire: 0, From: 1, To: 0}, {Wire: 1, From: 1, To: 0}},
		"A, ~A, (~A*A); ax 0 1, tensor 1 0 2; 2":                    {{Wire: 0, From: 0, To: 1}, {Wire: 1, From: 0, To: 1}},
		"(A*B), (~A|~B); ax 0 1, cut 1 0; ":                         {{Wire: 0, From: 0, To: 1}, {Wire: 1, From: 0, To: 1}},
		"(~A*A), ~A, A; ax 2 1, tensor 1 2 0; 0":                    {{Wire: 1, From: 0, To: 1}, {Wire: 2, From: 0, To: 1}},
		"A, (A*~A), ~A; tensor 0 2 1, ax 0 2; 1":                    {{Wire: 0, From: 1, To: 0}, {Wire: 2, From: 1, To: 0}},
		"A, ~A, (A*~A), B, ~B; ax 0 1, ax 3 4, tensor 0 1 2; 2 3 4": {{Wire: 0, From: 0, To: 2}, {Wire: 1, From: 0, To: 2}},
	} {
		n := netOf(text)
		if graph, ok := impl.SwitchGraph(n, nil); !ok || !slices.Equal(graph, want) || impl.SwitchingIsTree(n, nil) {
			t.Fatal("SwitchGraph", text, graph, ok)
		}
		if index, fault := impl.FailingSwitching(n); index != 0 || fault != faultCycle {
			t.Fatal("FailingSwitching", text, index, fault)
		}
		for from := range int64(len(n.Links)) {
			if path, ok := impl.SwitchingPath(n, nil, from, from); ok || len(path) > 0 {
				t.Fatal("SwitchingPath", text, path, ok)
			}
		}
	}
}

// The par links of a net in the order of their indices, which is not that of their wires, and the graphs of some switchings.
func TestGraphsWrittenOut(t *testing.T) {
	// The inputs of link 1 are the wires 6 and 5, those of link 3 the wires 1 and 3, and those of link 5 the wires 8 and 2.
	n := netOf("((A|~B)|(~A*B)), A, (~A|A), ~B, (A*~A), A, ~A, (A|~B), ((A*~A)|C), ~A, B, (~A*B), (((A*~A)|C)|(~A|A)), C, ~C, ~A, A; tensor 9 10 11, par 6 5 2, ax 1 9, par 1 3 7, ax 10 3, par 8 2 12, ax 15 5, ax 6 16, tensor 16 15 4, ax 13 14, par 4 13 8, par 7 11 0; 0 12 14")
	if !isNet(n) {
		t.Fatalf("no net:%s", describeNet(n))
	}
	wantList(t, "ParLinks", impl.ParLinks(n), []int64{1, 3, 5, 10, 11})
	whole := map[int64]impl.Arc{}
	for wire, ends := range map[int64][2]int64{
		1: {2, 3}, 2: {1, 5}, 3: {4, 3}, 4: {8, 10}, 5: {6, 1}, 6: {7, 1}, 7: {3, 11}, 8: {10, 5}, 9: {2, 0}, 10: {4, 0}, 11: {0, 11}, 13: {9, 10}, 15: {6, 8}, 16: {7, 8},
	} {
		whole[wire] = impl.Arc{Wire: wire, From: ends[0], To: ends[1]}
	}
	for _, c := range []struct{ switching, wires []int64 }{
		{[]int64{0, 0, 0, 0, 0}, []int64{1, 4, 6, 7, 8, 9, 10, 15, 16}}, {[]int64{1, 1, 1, 1, 1}, []int64{2, 3, 5, 9, 10, 11, 13, 15, 16}}, {[]int64{1, 0, 0, 0, 0}, []int64{1, 4, 5, 7, 8, 9, 10, 15, 16}},
		{[]int64{0, 1, 0, 0, 0}, []int64{3, 4, 6, 7, 8, 9, 10, 15, 16}}, {[]int64{0, 0, 1, 0, 0}, []int64{1, 2, 4, 6, 7, 9, 10, 15, 16}}, {[]int64{0, 0, 0, 1, 0}, []int64{1, 6, 7, 8, 9, 10, 13, 15, 16}},
		{[]int64{0, 0, 0, 0, 1}, []int64{1, 4, 6, 8, 9, 10, 11, 15, 16}},
	} {
		var want []impl.Arc
		for _, wire := range c.wires {
			want = append(want, whole[wire])
		}
		if got, ok := impl.SwitchGraph(n, c.switching); !ok || !slices.Equal(got, want) {
			t.Fatalf("SwitchGraph(%v) = %v, %v, want %v", c.switching, got, ok, want)
		}
	}
	seed := uint64(121)
	checkSwitchings(t, n, &seed)
}

// Every index of the range has its switching, and no two have the same; the bits of the index are its elements.
func TestSwitchingsOfEveryIndex(t *testing.T) {
	seed := uint64(122)
	for pars := range 11 {
		for _, n := range []impl.Net{parChains(pars), oneFailing(pars, 0)} {
			count := impl.SwitchingCount(n)
			if count != int64(math.Pow(2, float64(pars))) || len(impl.ParLinks(n)) != pars {
				t.Fatal("SwitchingCount", pars, count)
			}
			for index := range count {
				switching, ok := impl.SwitchingOf(n, index)
				sum := int64(0)
				for i, choice := range switching {
					sum += choice * int64(math.Pow(2, float64(i)))
				}
				if !ok || len(switching) != pars || sum != index || len(switching) > 0 && (slices.Min(switching) < 0 || slices.Max(switching) > 1) {
					t.Fatal("SwitchingOf", pars, index, switching, ok)
				}
				if graph, graphOk := impl.SwitchGraph(n, switching); index%17 == 0 && (!graphOk || !slices.Equal(graph, chosenArcs(n, allArcs(n), switching))) {
					t.Fatal("SwitchGraph", pars, index, graph, graphOk)
				}
			}
			for _, index := range slices.Concat(oddNumbers, oddSymbols, []int64{count, count + 1, 2 * count, -count, count - 1, 1023, 1024, 1025, 2047, 2048}) {
				checkIndex(t, n, index)
			}
			for range 20 {
				checkIndex(t, n, int64(choose(&seed, 1<<40))-1<<39)
			}
		}
	}
}

// Exactly ten par links have 1024 switchings. Of one more there is no number, no switching with an index and no verdict, but the switchings
// have graphs all the same.
func TestLimitOfParLinks(t *testing.T) {
	seed := uint64(123)
	for pars := range 23 {
		n := parChains(pars)
		if !isNet(n) || len(impl.ParLinks(n)) != pars {
			t.Fatal("no net with so many par links", pars)
		}
		if count := impl.SwitchingCount(n); (count == -1) != (pars > 10) || pars == 10 && count != 1024 {
			t.Fatal("SwitchingCount", pars, count)
		}
		if _, ok := impl.SwitchingOf(n, 0); ok != (pars <= 10) {
			t.Fatal("SwitchingOf", pars, ok)
		}
		want := [2]int64{0, faultSplit}
		if pars > 10 {
			want = [2]int64{-1, -1}
		}
		if index, fault := impl.FailingSwitching(n); [2]int64{index, fault} != want || impl.CorrectBySwitchings(n) {
			t.Fatal("FailingSwitching", pars, index, fault)
		}
		checkSwitchings(t, n, &seed)
	}
	// Eleven par links of the net of a proof: all its graphs are trees.
	n, _ := impl.NetOf(leafyProof(12, &seed))
	trees := 0
	for index := range int64(2048) {
		if impl.SwitchingIsTree(n, switchingAt(index, 11)) {
			trees++
		}
	}
	if trees != 2048 || impl.SwitchingCount(n) != -1 || impl.CorrectBySwitchings(n) {
		t.Fatal("eleven par links", trees, impl.SwitchingCount(n))
	}
}

// The par links stand in strictly increasing order, and each choice of their inputs leaves as many arcs as the net has wires with a
// consumer, less one for each of them.
func TestGraphsOfNets(t *testing.T) {
	seed, found := uint64(124), 0
	for _, n := range slices.Concat(someNets(), someAtomicNets()) {
		pars := impl.ParLinks(n)
		for at, k := range pars {
			if n.Links[k].Kind != par || at > 0 && pars[at-1] >= k {
				t.Fatalf("ParLinks = %v of%s", pars, describeNet(n))
			}
		}
		for _, switching := range someSwitchings(len(pars), &seed)[:min(8, 1<<len(pars))] {
			graph, ok := impl.SwitchGraph(n, switching)
			if !ok || len(graph) != len(n.Wires)-len(n.Concl)-len(pars) {
				t.Fatalf("SwitchGraph(%v) = %v, %v of%s", switching, graph, ok, describeNet(n))
			}
			for at, arc := range graph {
				if arc.From != impl.SourceOf(n, arc.Wire) || arc.To != impl.TargetOf(n, arc.Wire) || at > 0 && graph[at-1].Wire >= arc.Wire {
					t.Fatalf("SwitchGraph(%v) has the arc %v of%s", switching, arc, describeNet(n))
				}
				if l := n.Links[arc.To]; l.Kind == par && arc.Wire != map[int64]int64{0: l.A, 1: l.B}[switching[slices.Index(pars, arc.To)]] {
					t.Fatalf("SwitchGraph(%v) has the arc %v of%s", switching, arc, describeNet(n))
				}
			}
			found++
		}
	}
	if found < 2500 {
		t.Fatal("too few switchings", found)
	}
}

// Lists that are too short or too long, or have other elements than 0 and 1, are no switchings.
func TestNoSwitchings(t *testing.T) {
	seed, found := uint64(125), 0
	for at, n := range slices.Concat(smallNets(30), []impl.Net{parChains(10), parChains(11), parChains(22)}, someAtomicNets()[:60]) {
		if at%3 > 0 {
			continue
		}
		pars := len(wantLinksOf(n, par))
		plain := someSwitchings(pars, &seed)[0]
		for _, other := range [][]int64{append(slices.Clone(plain), 0), append(slices.Clone(plain), 1), slices.Repeat([]int64{0}, 48), slices.Repeat([]int64{1}, pars+2)} {
			checkNoGraph(t, n, other)
		}
		for i := range plain {
			checkNoGraph(t, n, slices.Delete(slices.Clone(plain), i, i+1))
			for _, odd := range oddChoices {
				other := slices.Clone(plain)
				other[i] = odd
				checkNoGraph(t, n, other)
				found++
			}
		}
	}
	if found < 1000 {
		t.Fatal("too few lists", found)
	}
}

// A net that is not valid has no switchings, whatever the reason is.
func TestSwitchingsOfBrokenNets(t *testing.T) {
	for _, n := range brokenNets() {
		checkNoSwitchings(t, n)
	}
	seed, visited, found := uint64(126), 0, map[bool]int{}
	for _, n := range append(smallNets(6), netOf(cycleFirst), netOf(joinedTwice)) {
		changedNets(n, func(changed impl.Net) {
			valid := isNet(changed)
			if visited++; valid || visited%20 == 0 {
				checkSwitchings(t, changed, &seed)
				found[valid]++
			}
		})
	}
	if found[true] < 100 || found[false] < 500 {
		t.Fatal("too few nets", found)
	}
}
