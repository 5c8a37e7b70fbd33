package tests

import (
	"math"
	"slices"
	"sync"
	"testing"

	"loop.example/g00872/impl"
)

// overwriteArcs changes a list and the spare capacity behind it.
func overwriteArcs(list []impl.Arc) {
	for whole, at := list[:cap(list)], 0; at < cap(list); at++ {
		whole[at] = impl.Arc{Wire: spare, From: spare, To: spare}
	}
}

// resultsOf holds all lists that the functions of chapter 11 return for a net, a switching and an index.
type resultsOf struct {
	pars, switching, path, same []int64
	graph                       []impl.Arc
}

func switchingResults(n impl.Net, switching []int64, index int64) resultsOf {
	var out resultsOf
	last := int64(len(n.Links)) - 1
	out.pars = impl.ParLinks(n)
	out.switching, _ = impl.SwitchingOf(n, index)
	out.graph, _ = impl.SwitchGraph(n, switching)
	out.path, _ = impl.SwitchingPath(n, switching, 0, last)
	out.same, _ = impl.SwitchingPath(n, switching, last, last)
	return out
}

func (r resultsOf) copied() resultsOf {
	return resultsOf{slices.Clone(r.pars), slices.Clone(r.switching), slices.Clone(r.path), slices.Clone(r.same), slices.Clone(r.graph)}
}

func (r resultsOf) equals(other resultsOf) bool {
	return slices.Equal(r.pars, other.pars) && slices.Equal(r.switching, other.switching) && slices.Equal(r.path, other.path) && slices.Equal(r.same, other.same) && slices.Equal(r.graph, other.graph)
}

// lists returns functions that overwrite the results, one each.
func (r resultsOf) lists() []func() {
	var out []func()
	for _, list := range [][]int64{r.pars, r.switching, r.path, r.same} {
		out = append(out, func() { overwrite(list) })
	}
	return append(out, func() { overwriteArcs(r.graph) })
}

// No function of chapter 11 changes an argument, and no result shares memory with an argument or with another result, those of the same
// call with the same arguments included.
func TestSwitchingsUnshared(t *testing.T) {
	seed, found := uint64(141), map[bool]int{}
	nets := slices.Concat(netsOfMemory(), []impl.Net{parChains(10), parChains(11), oneFailing(6, 20), {}}, correctNets()[:60])
	for _, plain := range nets {
		for _, guard := range []func(impl.Net) (impl.Net, func() bool){guardedNet, packedNet} {
			n, changedNet := guard(plain)
			choices := someSwitchings(len(impl.ParLinks(plain)), &seed)
			switching, changedSwitching := guarded(choices[len(choices)-1])
			changed := func() bool { return changedNet() || changedSwitching() }
			checkSwitchings(t, n, &seed)
			first := switchingResults(n, switching, 1)
			want := first.copied()
			again := switchingResults(n, switching, 1)
			for _, overwriteOne := range first.lists() {
				if overwriteOne(); changed() || !again.equals(want) || !switchingResults(n, switching, 1).equals(want) {
					t.Fatalf("an argument is changed or a result shares memory with something:%s", describeNet(plain))
				}
			}
			overwriteNet(n)
			overwrite(switching)
			if !again.equals(want) {
				t.Fatalf("a result changes with an argument:%s", describeNet(plain))
			}
			found[len(want.path) > 0]++
		}
	}
	if found[true] < 100 || found[false] < 100 {
		t.Fatal("too few nets", found)
	}
}

// The results of one net do not change with one another: each is overwritten while the others are kept.
func TestSwitchingResultsUnshared(t *testing.T) {
	for _, n := range []impl.Net{netOf(joinedTwice), netOf(cycleSecond), oneFailing(5, 9)} {
		switching, ok := impl.SwitchingOf(n, 0)
		if !ok {
			t.Fatal("no switching")
		}
		for k := range 5 {
			results := switchingResults(n, switching, 0)
			want, list := results.copied(), results.lists()
			list[k]()
			kept := []bool{
				slices.Equal(results.pars, want.pars), slices.Equal(results.switching, want.switching), slices.Equal(results.path, want.path), slices.Equal(results.same, want.same), slices.Equal(results.graph, want.graph),
			}
			if kept[k] = true; slices.Contains(kept, false) {
				t.Fatalf("the results share memory: %v of%s", kept, describeNet(n))
			}
		}
	}
}

// One list serves as a formula of a net and as a switching.
func TestSwitchingsWithOneList(t *testing.T) {
	numbers, changed := guarded([]int64{1, 0})
	n := netOf("A, ~A, B, ~B, (A|~A), (B|~B), ((A|~A)*(B|~B)); ax 0 1, ax 2 3, par 0 1 4, par 2 3 5, tensor 4 5 6; 6")
	n.Wires[0], n.Wires[1] = numbers[:1], []int64{-1}
	graph, ok := impl.SwitchGraph(n, numbers)
	if !ok || !slices.Equal(graph, chosenArcs(n, allArcs(n), []int64{1, 0})) || !impl.SwitchingIsTree(n, numbers) || changed() {
		t.Fatal("SwitchGraph", graph, ok)
	}
	if path, ok := impl.SwitchingPath(n, numbers, 0, 1); !ok || !slices.Equal(path, []int64{0, 2, 4, 3, 1}) || changed() {
		t.Fatal("SwitchingPath", path, ok)
	}
}

// Lists of many elements and extreme numbers: every function returns, and there are no switchings of what is no net.
func TestSwitchingsOfGreatArguments(t *testing.T) {
	const many = 1 << 18
	one := netOf("A, ~A, (A|~A); ax 0 1, par 0 1 2; 2")
	long := slices.Repeat([]int64{12}, many)
	for _, n := range []impl.Net{
		{Wires: make([][]int64, many)}, {Links: make([]impl.Link, many)}, {Concl: make([]int64, many)}, {Wires: slices.Repeat(one.Wires, many)}, {Links: slices.Repeat([]impl.Link{{Kind: par}}, many)},
		{Wires: one.Wires, Links: slices.Repeat(one.Links, many), Concl: one.Concl}, {Wires: one.Wires, Links: one.Links, Concl: slices.Repeat(one.Concl, many)}, {Wires: [][]int64{long, long, long}, Links: one.Links, Concl: one.Concl},
		{Wires: slices.Repeat(one.Wires, many), Links: slices.Repeat(one.Links, many), Concl: slices.Repeat(one.Concl, many)}, {Wires: one.Wires, Links: slices.Repeat([]impl.Link{one.Links[1]}, 48), Concl: one.Concl},
		{Wires: one.Wires, Links: []impl.Link{{Kind: par, A: math.MinInt64, B: math.MaxInt64, C: math.MinInt64}}, Concl: one.Concl}, {Wires: one.Wires, Links: one.Links, Concl: []int64{math.MaxInt64}},
	} {
		for _, switching := range [][]int64{nil, {0}, {1}, slices.Repeat([]int64{0}, 48), slices.Repeat([]int64{1}, many)} {
			graph, ok := impl.SwitchGraph(n, switching)
			path, pathOk := impl.SwitchingPath(n, switching, 0, 0)
			if ok || len(graph) > 0 || impl.SwitchingIsTree(n, switching) || pathOk || len(path) > 0 {
				t.Fatal("a graph of a great net")
			}
		}
		for _, index := range []int64{0, 1, -1, many, math.MaxInt64, math.MinInt64} {
			if switching, ok := impl.SwitchingOf(n, index); ok || len(switching) > 0 {
				t.Fatal("a switching of a great net")
			}
		}
		if index, fault := impl.FailingSwitching(n); index != -1 || fault != -1 || impl.CorrectBySwitchings(n) || impl.SwitchingCount(n) != -1 || len(impl.ParLinks(n)) > 0 {
			t.Fatal("a verdict of a great net", index, fault)
		}
	}
	for _, great := range [][]int64{make([]int64, many), slices.Repeat([]int64{1}, many), slices.Repeat([]int64{math.MinInt64}, many), {math.MaxInt64}, {math.MinInt64}, {0, 0, 0, 0}} {
		for _, n := range []impl.Net{one, {}, parChains(10), parChains(22)} {
			checkNoGraph(t, n, great)
		}
	}
	for _, from := range slices.Concat(oddNumbers, oddSymbols, []int64{2, 0, 1}) {
		for _, to := range slices.Concat(oddNumbers, []int64{2, 0, 1}) {
			checkPath(t, one, []int64{1}, chosenArcs(one, allArcs(one), []int64{1}), true, from, to)
		}
		checkIndex(t, one, from)
	}
}

// Calls at the same time do not disturb each other.
func TestSwitchingsAtTheSameTime(t *testing.T) {
	nets := slices.Concat(smallNets(16)[:40], []impl.Net{oneFailing(8, 200), parChains(10)})
	faults := make([]bool, len(nets))
	var group sync.WaitGroup
	for at, n := range nets {
		switching := slices.Repeat([]int64{1}, len(wantLinksOf(n, par)))
		results := switchingResults(n, switching, 1)
		wantIndex, wantFault := wantFailing(n)
		group.Go(func() {
			for range 20 {
				if index, fault := impl.FailingSwitching(n); index != wantIndex || fault != wantFault || !switchingResults(n, switching, 1).equals(results) {
					faults[at] = true
				}
			}
		})
	}
	group.Wait()
	if at := slices.Index(faults, true); at >= 0 {
		t.Fatalf("results differ at the same time, of%s", describeNet(nets[at]))
	}
}
