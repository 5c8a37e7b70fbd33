package tests

import (
	"slices"
	"testing"

	"loop.example/g00872/impl"
)

// pathCase is a net, a switching and a path, whose ends are those of the list, written out.
type pathCase struct {
	net             string
	switching, path []int64
}

func TestPathsWrittenOut(t *testing.T) {
	// A way of axioms and cuts, and a star of axioms around tensors.
	chain := "A, ~A, A, ~A, A, ~A; cut 1 2, ax 4 5, ax 0 1, cut 3 4, ax 2 3; 0 5"
	star := "A, ~A, B, ~B, C, ~C, (A*B), ((A*B)*C); tensor 6 4 7, tensor 0 2 6, ax 0 1, ax 2 3, ax 4 5; 7 1 3 5"
	for _, c := range []pathCase{
		{joinedTwice, []int64{0}, []int64{0}}, {joinedTwice, []int64{0}, []int64{3}}, {joinedTwice, []int64{0}, []int64{3, 0, 2, 1}}, {joinedTwice, []int64{0}, []int64{3, 0}}, {joinedTwice, []int64{0}, []int64{0, 2, 1}}, {joinedTwice, []int64{0}, []int64{2, 0, 3}},
		{joinedTwice, []int64{1}, []int64{3, 1, 2, 0}}, {joinedTwice, []int64{1}, []int64{3, 1}}, {joinedTwice, []int64{1}, []int64{0, 2, 1}}, {joinedTwice, []int64{1}, []int64{2, 1, 3}}, {joinedTwice, []int64{1}, []int64{1, 2}},
		{chain, nil, []int64{2, 0, 4, 3, 1}}, {chain, nil, []int64{0, 4, 3}}, {chain, nil, []int64{3, 4, 0, 2}}, {chain, nil, []int64{4}}, {chain, nil, []int64{1, 3}},
		{star, nil, []int64{2, 1, 3}}, {star, nil, []int64{2, 1, 0, 4}}, {star, nil, []int64{4, 0}}, {star, nil, []int64{3, 1, 0}}, {star, nil, []int64{0, 1}}, {star, nil, []int64{1}},
		{"A, ~A; ax 0 1; 0 1", nil, []int64{0}}, {"A, ~A, (A|~A); par 0 1 2, ax 0 1; 2", []int64{1}, []int64{1, 0}}, {"A, ~A, (A|~A); par 0 1 2, ax 0 1; 2", []int64{0}, []int64{0, 1}},
		{cycleSecond, []int64{0}, []int64{1, 2, 3, 0}}, {cycleFirst, []int64{1}, []int64{0, 3, 2, 1}},
	} {
		for range 2 {
			from, to := c.path[0], c.path[len(c.path)-1]
			if got, ok := impl.SwitchingPath(netOf(c.net), c.switching, from, to); !ok || !slices.Equal(got, c.path) {
				t.Fatalf("SwitchingPath(%v, %d, %d) = %v, %v, want %v of %s", c.switching, from, to, got, ok, c.path, c.net)
			}
			slices.Reverse(c.path)
		}
	}
}

// checkWay fails unless a path begins and ends as it should, follows the arcs of a graph, and visits no link twice.
func checkWay(t *testing.T, n impl.Net, graph []impl.Arc, path []int64, from, to int64) {
	t.Helper()
	if len(path) == 0 || path[0] != from || path[len(path)-1] != to || from == to && len(path) > 1 {
		t.Fatalf("the path from %d to %d is %v, of%s", from, to, path, describeNet(n))
	}
	for at, link := range path {
		if slices.Contains(path[:at], link) {
			t.Fatalf("the path %v visits %d twice, of%s", path, link, describeNet(n))
		}
		isArc := func(arc impl.Arc) bool {
			return arc.From == link && arc.To == path[at-1] || arc.To == link && arc.From == path[at-1]
		}
		if at > 0 && !slices.ContainsFunc(graph, isArc) {
			t.Fatalf("the path %v follows no arc to %d, of%s", path, link, describeNet(n))
		}
	}
}

// treesOfNets calls visit with nets and those of some switchings whose graphs are trees, and the graphs.
func treesOfNets(visit func(n impl.Net, switching []int64, graph []impl.Arc)) {
	seed := uint64(131)
	nets := slices.Concat(correctNets(), someNets(), []impl.Net{oneFailing(10, 700), oneFailing(4, 0)})
	for _, list := range fullProofs() {
		n, _ := wantNetOf(list)
		nets = append(nets, n)
	}
	for leaves := 10; leaves <= 12; leaves++ {
		n, _ := wantNetOf(leafyProof(leaves, &seed))
		nets = append(nets, n)
	}
	for at, n := range nets {
		pars, all := len(wantLinksOf(n, par)), allArcs(n)
		switchings := someSwitchings(pars, &seed)
		for _, switching := range [][]int64{switchings[0], switchings[len(switchings)-1]} {
			if graph := chosenArcs(n, all, switching); (at%3 == 0 || len(n.Links) > 20) && faultIn(len(n.Links), graph) == faultNone {
				visit(n, switching, graph)
			}
		}
	}
}

// Between all links of a tree there is a path, which the opposite direction reverses.
func TestPathsInTrees(t *testing.T) {
	trees, longest := 0, 0
	treesOfNets(func(n impl.Net, switching []int64, graph []impl.Arc) {
		eachPair(len(n.Links), func(from, to int64) {
			path, ok := impl.SwitchingPath(n, switching, from, to)
			if !ok {
				t.Fatalf("no path from %d to %d with %v, of%s", from, to, switching, describeNet(n))
			}
			checkWay(t, n, graph, path, from, to)
			longest = max(longest, len(path))
			back, _ := impl.SwitchingPath(n, switching, to, from)
			slices.Reverse(back)
			wantList(t, "the path in the opposite direction", back, path)
			if (from+to)%5 == 0 {
				wantList(t, "SwitchingPath", path, wantPath(graph, from, to))
			}
		})
		trees++
	})
	if trees < 250 || longest < 15 {
		t.Fatal("too few trees", trees, longest)
	}
}

// Each path is a part of every longer one that begins as it does: what follows the second link is the path from there.
func TestPathsOfPaths(t *testing.T) {
	found := 0
	treesOfNets(func(n impl.Net, switching []int64, _ []impl.Arc) {
		last := int64(len(n.Links)) - 1
		for from := range last + 1 {
			path, _ := impl.SwitchingPath(n, switching, from, last-from)
			for at := 1; at < len(path); at++ {
				first, ok := impl.SwitchingPath(n, switching, path[0], path[at])
				rest, restOk := impl.SwitchingPath(n, switching, path[at], last-from)
				if !ok || !restOk || !slices.Equal(first, path[:at+1]) || !slices.Equal(rest, path[at:]) {
					t.Fatalf("the path %v consists of %v and %v, of%s", path, first, rest, describeNet(n))
				}
				found++
			}
		}
	})
	if found < 3000 {
		t.Fatal("too few paths", found)
	}
}

// There is no path from or to a link that the net does not have.
func TestPathsOutOfRange(t *testing.T) {
	found := 0
	treesOfNets(func(n impl.Net, switching []int64, graph []impl.Arc) {
		links := int64(len(n.Links))
		for _, odd := range append([]int64{links, links + 1, -links}, oddNumbers...) {
			for _, ends := range [][2]int64{{odd, 0}, {0, odd}, {odd, odd}, {odd, links - 1}, {links - 1, odd}} {
				if path, ok := impl.SwitchingPath(n, switching, ends[0], ends[1]); ok || len(path) > 0 {
					t.Fatalf("SwitchingPath(%v, %d, %d) = %v, %v of%s", switching, ends[0], ends[1], path, ok, describeNet(n))
				}
			}
		}
		found++
	})
	if found < 250 {
		t.Fatal("too few trees", found)
	}
}

// There is no path in a graph that is no tree, not even from a link to itself or between links that an arc connects.
func TestPathsInOtherGraphs(t *testing.T) {
	seed, found := uint64(132), 0
	for _, n := range slices.Concat(smallNets(20), []impl.Net{oneFailing(3, 5), oneFailing(10, 1023), parChains(7)}) {
		all := allArcs(n)
		for _, switching := range someSwitchings(len(wantLinksOf(n, par)), &seed) {
			if faultIn(len(n.Links), chosenArcs(n, all, switching)) == faultNone {
				continue
			}
			eachPair(min(len(n.Links), 6), func(from, to int64) {
				if path, ok := impl.SwitchingPath(n, switching, from, to); ok || len(path) > 0 {
					t.Fatalf("SwitchingPath(%v, %d, %d) = %v, %v of%s", switching, from, to, path, ok, describeNet(n))
				}
			})
			found++
		}
	}
	if found < 300 {
		t.Fatal("too few graphs", found)
	}
}
