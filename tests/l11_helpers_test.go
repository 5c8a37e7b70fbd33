package tests

import (
	"slices"
	"testing"

	"loop.example/g00872/impl"
)

// The faults of chapter 11 as numbers, so that expected values do not depend on the program.
const (
	faultNone  = int64(0)
	faultCycle = int64(1)
	faultSplit = int64(2)
)

// wantCount is SwitchingCount as the tests see it.
func wantCount(n impl.Net) int64 {
	if !isNet(n) || len(wantLinksOf(n, par)) > 10 {
		return -1
	}
	count := int64(1)
	for range wantLinksOf(n, par) {
		count += count
	}
	return count
}

// switchingAt returns the switching of so many par links with an index: its elements are the remainders of repeated halving.
func switchingAt(index int64, pars int) []int64 {
	var out []int64
	for range pars {
		out = append(out, index%2)
		index /= 2
	}
	return out
}

// someSwitchings returns all switchings of up to six par links, and some of more.
func someSwitchings(pars int, seed *uint64) [][]int64 {
	var out [][]int64
	for index := range int64(64) {
		switch {
		case pars > 6 && index == 63:
			out = append(out, slices.Repeat([]int64{1}, pars))
		case pars > 6 && index > 0:
			out = append(out, switchingAt(int64(choose(seed, 1<<pars)), pars))
		case index < 1<<pars:
			out = append(out, switchingAt(index, pars))
		}
	}
	return out
}

// allArcs returns the arcs of all wires with a consumer of a valid net.
func allArcs(n impl.Net) []impl.Arc {
	var out []impl.Arc
	for wire := range int64(len(n.Wires)) {
		if to := wantEnd(n, wire, 'i'); to >= 0 {
			out = append(out, impl.Arc{Wire: wire, From: wantEnd(n, wire, 'o'), To: to})
		}
	}
	return out
}

// chosenArcs returns those of all arcs of a valid net that are in the graph of a switching: all that do not end at a par link, and for each
// par link the one with the chosen input.
func chosenArcs(n impl.Net, all []impl.Arc, switching []int64) []impl.Arc {
	pars := wantLinksOf(n, par)
	var out []impl.Arc
	for _, arc := range all {
		at := slices.Index(pars, arc.To)
		if at < 0 || arc.Wire == []int64{n.Links[arc.To].A, n.Links[arc.To].B}[switching[at]] {
			out = append(out, arc)
		}
	}
	return out
}

// pruned takes away, again and again, the arcs with an end that is not kept and has no other arc. Without kept ends the arcs of the cycles
// are left and those between them, with two kept ends in a tree those of the path between them.
func pruned(arcs []impl.Arc, kept ...int64) []impl.Arc {
	for {
		uses := map[int64]int{}
		for _, arc := range arcs {
			uses[arc.From]++
			uses[arc.To]++
		}
		for _, end := range kept {
			uses[end] += 2
		}
		left := slices.DeleteFunc(slices.Clone(arcs), func(arc impl.Arc) bool { return uses[arc.From] == 1 || uses[arc.To] == 1 })
		if len(left) == len(arcs) {
			return left
		}
		arcs = left
	}
}

// reachedFrom returns the nodes to which arcs lead from some nodes, those themselves included.
func reachedFrom(arcs []impl.Arc, nodes ...int64) []int64 {
	for at := 0; at < len(nodes); at++ {
		for _, arc := range arcs {
			for _, way := range [][2]int64{{arc.From, arc.To}, {arc.To, arc.From}} {
				if way[0] == nodes[at] && !slices.Contains(nodes, way[1]) {
					nodes = append(nodes, way[1])
				}
			}
		}
	}
	return nodes
}

// faultIn returns the fault of a graph as the tests see it.
func faultIn(nodes int, arcs []impl.Arc) int64 {
	switch {
	case len(pruned(arcs)) > 0:
		return faultCycle
	case nodes == 0 || len(reachedFrom(arcs, 0)) < nodes:
		return faultSplit
	}
	return faultNone
}

// wantFailing is FailingSwitching as the tests see it.
func wantFailing(n impl.Net) (int64, int64) {
	count := wantCount(n)
	if count < 0 {
		return -1, -1
	}
	all, pars := allArcs(n), len(wantLinksOf(n, par))
	for index := range count {
		if fault := faultIn(len(n.Links), chosenArcs(n, all, switchingAt(index, pars))); fault != faultNone {
			return index, fault
		}
	}
	return -1, faultNone
}

// wantPath returns the path between two nodes of a tree as the tests see it: what is left of the tree, followed from its beginning.
func wantPath(arcs []impl.Arc, from, to int64) []int64 {
	out := []int64{from}
	left := pruned(arcs, from, to)
	for len(left) > 0 {
		last := out[len(out)-1]
		at := slices.IndexFunc(left, func(arc impl.Arc) bool { return arc.From == last || arc.To == last })
		out = append(out, left[at].From+left[at].To-last)
		left = slices.Delete(left, at, at+1)
	}
	return out
}

// isProvable reports whether some links of a valid net, as bits, are those of a proof: one axiom, or a last link that is a par above the
// others or stands below two parts of them.
func isProvable(n impl.Net, arcs []impl.Arc, links uint64) bool {
	inside := slices.DeleteFunc(slices.Clone(arcs), func(arc impl.Arc) bool { return links>>arc.From&1 == 0 || links>>arc.To&1 == 0 })
	for k, l := range n.Links {
		rest := links &^ (1 << k)
		isBelow := func(arc impl.Arc) bool { return arc.From == int64(k) }
		if links == rest || slices.ContainsFunc(inside, isBelow) {
			continue
		}
		switch l.Kind {
		case ax:
			if rest == 0 {
				return true
			}
		case par:
			if isProvable(n, arcs, rest) {
				return true
			}
		case tensor, cut:
			first, second := partAbove(n, inside, int64(k), l.A), partAbove(n, inside, int64(k), l.B)
			if first&second == 0 && first|second == rest && isProvable(n, arcs, first) && isProvable(n, arcs, second) {
				return true
			}
		}
	}
	return false
}

// partAbove returns the links, as bits, that are connected with the producer of a wire if the link k is taken away.
func partAbove(n impl.Net, arcs []impl.Arc, k, wire int64) uint64 {
	left := slices.DeleteFunc(slices.Clone(arcs), func(arc impl.Arc) bool { return arc.From == k || arc.To == k })
	part := uint64(0)
	for _, link := range reachedFrom(left, wantEnd(n, wire, 'o')) {
		part |= 1 << link
	}
	return part
}

// hasProof reports whether a valid net is that of a proof, as far as its links are concerned.
func hasProof(n impl.Net) bool { return isProvable(n, allArcs(n), 1<<len(n.Links)-1) }

// checkPath compares SwitchingPath with the expectation, where tree holds the arcs of the graph if it is a tree.
func checkPath(t *testing.T, n impl.Net, switching []int64, tree []impl.Arc, isTree bool, from, to int64) {
	t.Helper()
	links := int64(len(n.Links))
	wantOk := isTree && from >= 0 && from < links && to >= 0 && to < links
	var want []int64
	if wantOk {
		want = wantPath(tree, from, to)
	}
	if got, ok := impl.SwitchingPath(n, switching, from, to); ok != wantOk || !slices.Equal(got, want) {
		t.Fatalf("SwitchingPath(%v, %d, %d) = %v, %v, want %v, %v of%s", switching, from, to, got, ok, want, wantOk, describeNet(n))
	}
}

// checkGraph compares SwitchGraph, SwitchingIsTree and some paths of a valid net with the expectation, where all holds all its arcs, and
// reports whether the graph is a tree.
func checkGraph(t *testing.T, n impl.Net, all []impl.Arc, switching []int64, seed *uint64) bool {
	t.Helper()
	want := chosenArcs(n, all, switching)
	if got, ok := impl.SwitchGraph(n, switching); !ok || !slices.Equal(got, want) {
		t.Fatalf("SwitchGraph(%v) = %v, %v, want %v of%s", switching, got, ok, want, describeNet(n))
	}
	isTree := faultIn(len(n.Links), want) == faultNone
	if got := impl.SwitchingIsTree(n, switching); got != isTree {
		t.Fatalf("SwitchingIsTree(%v) = %v of%s", switching, got, describeNet(n))
	}
	for range 2 {
		checkPath(t, n, switching, want, isTree, int64(choose(seed, uint64(len(n.Links)+1))), int64(choose(seed, uint64(len(n.Links)+1))))
	}
	return isTree
}

// checkNoGraph fails if there is a graph of what is no switching.
func checkNoGraph(t *testing.T, n impl.Net, switching []int64) {
	t.Helper()
	if graph, ok := impl.SwitchGraph(n, switching); ok || len(graph) > 0 || impl.SwitchingIsTree(n, switching) {
		t.Fatalf("SwitchGraph(%v) = %v, %v of%s", shortened(switching), graph, ok, describeNet(n))
	}
	for _, to := range []int64{0, 1, int64(len(n.Links)) - 1, -1} {
		if path, ok := impl.SwitchingPath(n, switching, 0, to); ok || len(path) > 0 {
			t.Fatalf("SwitchingPath(%v, 0, %d) = %v, %v of%s", shortened(switching), to, path, ok, describeNet(n))
		}
	}
}

// shortened returns the beginning of a list for messages.
func shortened(list []int64) []int64 { return list[:min(len(list), 30)] }

// checkIndex compares SwitchingOf with the expectation.
func checkIndex(t *testing.T, n impl.Net, index int64) {
	t.Helper()
	count := wantCount(n)
	wantOk := index >= 0 && index < count
	var want []int64
	if wantOk {
		want = switchingAt(index, len(wantLinksOf(n, par)))
	}
	if got, ok := impl.SwitchingOf(n, index); ok != wantOk || !slices.Equal(got, want) {
		t.Fatalf("SwitchingOf(%d) = %v, %v, want %v, %v of%s", index, got, ok, want, wantOk, describeNet(n))
	}
}

// checkVerdict compares ParLinks, SwitchingCount, FailingSwitching and CorrectBySwitchings with the expectation, and returns the verdict.
func checkVerdict(t *testing.T, n impl.Net) (int64, int64) {
	t.Helper()
	var pars []int64
	if isNet(n) {
		pars = wantLinksOf(n, par)
	}
	if got := impl.ParLinks(n); !slices.Equal(got, pars) {
		t.Fatalf("ParLinks = %v, want %v of%s", got, pars, describeNet(n))
	}
	if got, want := impl.SwitchingCount(n), wantCount(n); got != want {
		t.Fatalf("SwitchingCount = %d, want %d of%s", got, want, describeNet(n))
	}
	index, fault := impl.FailingSwitching(n)
	if wantIndex, wantFault := wantFailing(n); index != wantIndex || fault != wantFault {
		t.Fatalf("FailingSwitching = %d, %d, want %d, %d of%s", index, fault, wantIndex, wantFault, describeNet(n))
	}
	if got := impl.CorrectBySwitchings(n); got != (index == -1 && fault == faultNone) {
		t.Fatalf("CorrectBySwitchings = %v of%s", got, describeNet(n))
	}
	return index, fault
}

// checkSwitchings compares all functions of chapter 11 of a net with the expectation, and reports whether it is correct.
func checkSwitchings(t *testing.T, n impl.Net, seed *uint64) bool {
	t.Helper()
	_, fault := checkVerdict(t, n)
	if !isNet(n) {
		checkNoSwitchings(t, n)
		return false
	}
	count := wantCount(n)
	for _, index := range []int64{0, 1, count / 2, count - 1, count, -1} {
		checkIndex(t, n, index)
	}
	all := allArcs(n)
	for _, switching := range someSwitchings(len(wantLinksOf(n, par)), seed) {
		if !checkGraph(t, n, all, switching, seed) && fault == faultNone {
			t.Fatalf("the graph of %v is no tree, of%s", switching, describeNet(n))
		}
	}
	return fault == faultNone
}

// checkNoSwitchings fails if there is a switching or a graph of what is no valid net.
func checkNoSwitchings(t *testing.T, n impl.Net) {
	t.Helper()
	for _, index := range []int64{0, 1, -1} {
		checkIndex(t, n, index)
	}
	for _, switching := range [][]int64{nil, {0}, {1}, {0, 0}} {
		checkNoGraph(t, n, switching)
	}
	if index, fault := impl.FailingSwitching(n); index != -1 || fault != -1 || impl.SwitchingCount(n) != -1 || len(impl.ParLinks(n)) > 0 || impl.CorrectBySwitchings(n) {
		t.Fatalf("FailingSwitching = %d, %d of%s", index, fault, describeNet(n))
	}
}

// checkVariety fails unless multiplicative proofs have many steps with every rule, and few and many par links.
func checkVariety(t *testing.T, proofs [][]impl.Step) {
	t.Helper()
	rules, pars := map[int64]int{}, map[int]int{}
	for _, list := range proofs {
		count := map[int64]int{}
		for _, s := range list {
			rules[s.Rule]++
			count[s.Rule]++
		}
		pars[count[par]]++
	}
	for _, rule := range multRules {
		if rules[rule] < 300 {
			t.Fatal("too few steps", rules)
		}
	}
	if pars[0] < 20 || pars[1] < 50 || pars[4] < 30 || pars[7] < 5 {
		t.Fatal("too few par links", pars)
	}
}
