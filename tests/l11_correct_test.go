package tests

import (
	"slices"
	"testing"

	"loop.example/g00872/impl"
)

// checkEveryTree fails unless the graph of every switching is a tree; the net must have at most ten par links.
func checkEveryTree(t *testing.T, n impl.Net) {
	t.Helper()
	count := impl.SwitchingCount(n)
	for index := range count {
		switching, ok := impl.SwitchingOf(n, index)
		graph, graphOk := impl.SwitchGraph(n, switching)
		if !ok || !graphOk || !impl.SwitchingIsTree(n, switching) || len(graph) != len(n.Links)-1 || len(reachedFrom(graph, 0)) != len(n.Links) {
			t.Fatalf("the switching %d = %v, %v has the graph %v, %v of%s", index, switching, ok, graph, graphOk, describeNet(n))
		}
	}
	if index, fault := impl.FailingSwitching(n); count < 1 || index != -1 || fault != 0 || !impl.CorrectBySwitchings(n) {
		t.Fatalf("FailingSwitching = %d, %d of%s", index, fault, describeNet(n))
	}
}

// The net of every multiplicative proof with at most ten par links is correct, and every graph of it is a tree.
func TestNetsOfProofsAreCorrect(t *testing.T) {
	seed, proofs := uint64(111), someMultProofs()
	checkVariety(t, proofs)
	for _, list := range proofs {
		n, ok := impl.NetOf(list)
		if !ok || len(impl.ParLinks(n)) > 10 {
			t.Fatalf("no net with at most ten par links: %v of%s", ok, describe(list))
		}
		if !checkSwitchings(t, n, &seed) {
			t.Fatalf("the net is not correct, of%s", describe(list))
		}
		checkEveryTree(t, n)
	}
}

// The nets of the parts of a proof are correct.
func TestNetsOfPartsAreCorrect(t *testing.T) {
	nets := netsOfParts()
	for _, n := range nets {
		if index, fault := impl.FailingSwitching(n); index != -1 || fault != 0 || !impl.CorrectBySwitchings(n) {
			t.Fatalf("FailingSwitching = %d, %d of%s", index, fault, describeNet(n))
		}
	}
	if len(nets) < 5000 {
		t.Fatal("too few parts", len(nets))
	}
}

// The net of the identity proof of a formula is correct with up to eleven leaves, which are ten par links. With twelve leaves there is no
// number of its switchings, and no verdict, but all its graphs are trees.
func TestNetsOfIdentityProofsAreCorrect(t *testing.T) {
	seed := uint64(112)
	for leaves := 1; leaves <= 12; leaves++ {
		for tries := range 6 {
			n, ok := impl.NetOf(leafyProof(leaves, &seed))
			if !ok || len(impl.ParLinks(n)) != leaves-1 {
				t.Fatal("no net with so many par links", leaves, ok)
			}
			if checkSwitchings(t, n, &seed) != (leaves <= 11) {
				t.Fatalf("the verdict is wrong for %d par links, of%s", leaves-1, describeNet(n))
			}
			if leaves < 11 || leaves == 11 && tries < 2 {
				checkEveryTree(t, n)
			}
		}
	}
}

func TestVerdictsWrittenOut(t *testing.T) {
	seed := uint64(113)
	for _, c := range verdicts {
		n := netOf(c.net)
		if index, fault := impl.FailingSwitching(n); index != c.index || fault != c.fault || impl.CorrectBySwitchings(n) != (c.index == -1) {
			t.Fatalf("FailingSwitching = %d, %d, want %d, %d of %s", index, fault, c.index, c.fault, c.net)
		}
		if checkSwitchings(t, n, &seed) != (c.index == -1) {
			t.Fatal("the tests do not know the verdict of", c.net)
		}
		if c.index != -1 {
			switching, ok := impl.SwitchingOf(n, c.index)
			if !ok || impl.SwitchingIsTree(n, switching) {
				t.Fatal("the failing switching is a tree", c.net)
			}
		}
	}
}

// The faults of the graphs of single switchings, one by one: trees, cycles alone in some of them, and splits alone in some of them.
func TestFaultsOfSingleSwitchings(t *testing.T) {
	for net, want := range map[string][]int64{
		cycleFirst:  {faultCycle, faultNone},
		cycleSecond: {faultNone, faultCycle},
		"A, ~A, B, ~B, (A|B), ((A|B)*~A), C, ~C; ax 0 1, ax 2 3, par 0 2 4, tensor 4 1 5, ax 6 7; 3 5 6 7":                                              {faultCycle, faultSplit},
		"A, ~A, B, ~B, (B|A), ((B|A)*~A), C, ~C; ax 0 1, ax 2 3, par 2 0 4, tensor 4 1 5, ax 6 7; 3 5 6 7":                                              {faultSplit, faultCycle},
		"A, ~A, B, ~B, (A|B); ax 0 1, ax 2 3, par 0 2 4; 1 3 4":                                                                                         {faultSplit, faultSplit},
		"A, ~A, B, ~B, (A|B), ((A|B)*~A), (((A|B)*~A)*~B); ax 0 1, ax 2 3, par 0 2 4, tensor 4 1 5, tensor 5 3 6; 6":                                    {faultCycle, faultCycle},
		"A, ~A, B, ~B, (A*~A), ((A*~A)|B); ax 0 1, ax 2 3, tensor 0 1 4, par 4 2 5; 3 5":                                                                {faultCycle, faultCycle},
		"A, ~A, B, ~B, C, ~C, (B|A), (C|(B|A)), ((C|(B|A))*~A), (~B*~C); ax 0 1, ax 2 3, ax 4 5, par 2 0 6, par 4 6 7, tensor 7 1 8, tensor 3 5 9; 8 9": {faultNone, faultNone, faultNone, faultCycle},
		"A, ~A, B, ~B, C, ~C, (A|B), (C|(A|B)), ((C|(A|B))*~A), (~B*~C); ax 0 1, ax 2 3, ax 4 5, par 0 2 6, par 4 6 7, tensor 7 1 8, tensor 3 5 9; 8 9": {faultNone, faultNone, faultCycle, faultNone},
	} {
		n := netOf(net)
		if !isNet(n) || impl.SwitchingCount(n) != int64(len(want)) {
			t.Fatal("not as many switchings", net)
		}
		for index, fault := range want {
			switching, _ := impl.SwitchingOf(n, int64(index))
			graph, ok := impl.SwitchGraph(n, switching)
			if !ok || faultIn(len(n.Links), graph) != fault || impl.SwitchingIsTree(n, switching) != (fault == faultNone) {
				t.Fatalf("the graph of the switching %d is %v of %s", index, graph, net)
			}
		}
		first := slices.IndexFunc(want, func(fault int64) bool { return fault != faultNone })
		if index, fault := impl.FailingSwitching(n); index != int64(first) || fault != want[first] {
			t.Fatalf("FailingSwitching = %d, %d of %s", index, fault, net)
		}
	}
}

// FailingSwitching finds the only switching that fails, whatever its index is, up to the last one of ten par links.
func TestOnlyFailingSwitching(t *testing.T) {
	seed := uint64(114)
	for pars := range 11 {
		for index := range int64(1) << pars {
			if pars > 5 && index > 1 && index&(index-1) != 0 && index&(index+1) != 0 && choose(&seed, 1<<pars) > 12 {
				continue
			}
			n := oneFailing(pars, index)
			if !isNet(n) || len(impl.ParLinks(n)) != pars {
				t.Fatal("no net", pars, index)
			}
			if got, fault := impl.FailingSwitching(n); got != index || fault != faultCycle || impl.CorrectBySwitchings(n) {
				t.Fatalf("FailingSwitching = %d, %d, want %d of%s", got, fault, index, describeNet(n))
			}
			if pars < 6 {
				checkSwitchings(t, n, &seed)
			}
			switching, _ := impl.SwitchingOf(n, index)
			other := switchingAt(int64(choose(&seed, 1<<pars)), pars)
			if impl.SwitchingIsTree(n, switching) || impl.SwitchingIsTree(n, other) == slices.Equal(switching, other) {
				t.Fatalf("SwitchingIsTree of %v or %v of%s", switching, other, describeNet(n))
			}
		}
	}
}

// Nets of all kinds, correct or not: those that are written out, those at the limits, and others in any order.
func TestVerdictsOfNets(t *testing.T) {
	seed, found := uint64(115), map[[2]int64]int{}
	for _, n := range slices.Concat(someNets(), someAtomicNets()) {
		checkSwitchings(t, n, &seed)
		index, fault := impl.FailingSwitching(n)
		found[[2]int64{min(index, 1), fault}]++
	}
	if found[[2]int64{-1, faultNone}] < 60 || found[[2]int64{0, faultCycle}] < 200 || found[[2]int64{0, faultSplit}] < 200 || found[[2]int64{1, faultCycle}] < 5 || found[[2]int64{-1, -1}] < 2 {
		t.Fatal("too few nets", found)
	}
}

// Every net that links make of two axioms is correct if its links are those of a proof, and otherwise not.
func TestVerdictsOfAllNetsOfTwoAxioms(t *testing.T) {
	seed, visited, found := uint64(116), 0, map[[2]int64]int{}
	for _, forms := range [][]tree{{leaf(1)}, {leaf(1), leaf(1)}, {leaf(1), leaf(2)}} {
		joinedInAllWays(axioms(forms...), func(n impl.Net) {
			index, fault := checkVerdict(t, n)
			if (fault == faultNone) != hasProof(n) {
				t.Fatalf("FailingSwitching = %d, %d, although there is a proof or none, of%s", index, fault, describeNet(n))
			}
			if visited++; visited%10 == 0 {
				checkSwitchings(t, n, &seed)
			}
			found[[2]int64{index, fault}]++
		})
	}
	if visited < 3000 || found[[2]int64{-1, faultNone}] < 500 || found[[2]int64{0, faultCycle}] < 800 || found[[2]int64{1, faultCycle}] < 50 || found[[2]int64{0, faultSplit}] < 100 {
		t.Fatal("too few nets", visited, found)
	}
}

// Nets with up to twelve links, in any order, are correct if their links are those of a proof, and otherwise not.
func TestVerdictsOfNetsByProofs(t *testing.T) {
	seed, found := uint64(117), map[bool]int{}
	for range 1500 {
		n := smallGrownNet(&seed)
		got := impl.CorrectBySwitchings(n)
		if found[got]++; got != hasProof(n) {
			t.Fatalf("CorrectBySwitchings = %v of%s", got, describeNet(n))
		}
	}
	if found[true] < 100 || found[false] < 500 {
		t.Fatal("too few nets", found)
	}
}

// Two correct nets side by side are split; a tensor or a cut between them makes them one correct net, and one within either of them a cycle.
func TestLinksBetweenCorrectNets(t *testing.T) {
	found := map[[2]int64]int{}
	eachTwoCorrectNets(func(a, _, both impl.Net) {
		if index, fault := impl.FailingSwitching(both); index != 0 || fault != faultSplit {
			t.Fatalf("FailingSwitching = %d, %d of two nets:%s", index, fault, describeNet(both))
		}
		eachLinked(both, func(kind, i, j int64, n impl.Net) {
			want := [2]int64{0, faultCycle}
			if (i < int64(len(a.Concl))) != (j < int64(len(a.Concl))) {
				want = [2]int64{-1, faultNone}
			}
			if index, fault := impl.FailingSwitching(n); kind != par && [2]int64{index, fault} != want {
				t.Fatalf("FailingSwitching = %d, %d after a link of the kind %d, of%s", index, fault, kind, describeNet(n))
			}
			found[[2]int64{kind, want[1]}]++
		})
	})
	for _, kind := range []int64{cut, tensor} {
		if found[[2]int64{kind, faultNone}] < 200 || found[[2]int64{kind, faultCycle}] < 100 {
			t.Fatal("too few links", found)
		}
	}
}

// A par of two conclusions of a correct net makes a correct net, and a tensor or a cut of them a cycle.
func TestLinksWithinCorrectNets(t *testing.T) {
	found := map[int64]int{}
	for _, a := range correctNets() {
		eachLinked(a, func(kind, _, _ int64, n impl.Net) {
			want := [2]int64{0, faultCycle}
			if kind == par {
				want = [2]int64{-1, faultNone}
			}
			if index, fault := impl.FailingSwitching(n); [2]int64{index, fault} != want {
				t.Fatalf("FailingSwitching = %d, %d after a link of the kind %d, of%s", index, fault, kind, describeNet(n))
			}
			found[kind]++
		})
	}
	if found[cut] < 50 || found[tensor] < 1000 || found[par] < 1000 {
		t.Fatal("too few links", found)
	}
}

// The numbers of the wires and links, and the order of the conclusions, do not change the verdict. Those of the wires alone do not change
// the first failing switching.
func TestVerdictsOfRenumberedNets(t *testing.T) {
	seed, found := uint64(119), map[bool]int{}
	for _, n := range slices.Concat(smallNets(24), correctNets()) {
		index, fault := impl.FailingSwitching(n)
		wires := somePlaces(len(n.Wires), &seed)
		same, _ := impl.RenumberNet(n, wires, inOrder(len(n.Links)))
		other, _ := impl.RenumberNet(n, wires, somePlaces(len(n.Links), &seed))
		other.Concl = moved(other.Concl, somePlaces(len(n.Concl), &seed))
		if got, gotFault := impl.FailingSwitching(same); got != index || gotFault != fault {
			t.Fatalf("FailingSwitching = %d, %d of other wires, but %d, %d of%s", got, gotFault, index, fault, describeNet(n))
		}
		correct := impl.CorrectBySwitchings(n)
		if found[correct]++; impl.CorrectBySwitchings(other) != correct {
			t.Fatalf("CorrectBySwitchings = %v of other numbers, of%s", !correct, describeNet(n))
		}
	}
	if found[true] < 100 || found[false] < 100 {
		t.Fatal("too few nets", found)
	}
}
