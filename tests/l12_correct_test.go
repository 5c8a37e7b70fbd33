package tests

import (
	"slices"
	"testing"

	"loop.example/g00872/impl"
)

// agree fails unless contraction and switchings have the same verdict on a valid net with at most ten par links, and returns it.
func agree(t *testing.T, n impl.Net) bool {
	t.Helper()
	contracts, correct := impl.CorrectByContraction(n), impl.CorrectBySwitchings(n)
	if contracts != correct || len(wantLinksOf(n, par)) > 10 {
		t.Fatalf("CorrectByContraction = %v, CorrectBySwitchings = %v of%s", contracts, correct, describeNet(n))
	}
	return contracts
}

// The net of every multiplicative proof contracts to a point, in any order.
func TestNetsOfProofsContract(t *testing.T) {
	seed, proofs := uint64(161), someMultProofs()
	checkVariety(t, proofs)
	for _, list := range proofs {
		n, ok := impl.NetOf(list)
		if !ok || !checkNetGraph(t, n) || !impl.CorrectByContraction(n) || !agree(t, n) {
			t.Fatalf("CorrectByContraction = false of the net of%s", describe(list))
		}
		g, _ := impl.GraphOfNet(n)
		if last, count := impl.ContractAll(g); !isOnePoint(last) || count != g.Nodes-1 {
			t.Fatalf("ContractAll = %d with%s\nof the net of%s", count, describePaired(last), describe(list))
		}
		if last := inAnyOrder(t, g, &seed); !impl.IsPoint(last) {
			t.Fatalf("contraction in another order ends in%s\nof the net of%s", describePaired(last), describe(list))
		}
	}
}

// The nets of the parts of a proof are correct.
func TestNetsOfPartsContract(t *testing.T) {
	nets := netsOfParts()
	for _, n := range nets {
		if !impl.CorrectByContraction(n) {
			t.Fatalf("CorrectByContraction = false of%s", describeNet(n))
		}
	}
	if len(nets) < 5000 {
		t.Fatal("too few parts", len(nets))
	}
}

// Contraction has no limit of par links: the net of the identity proof of a formula with twelve leaves has eleven, and contracts. A par of
// its two conclusions keeps it correct; a cut or a tensor of them makes a cycle.
func TestNetsOfIdentityProofsContract(t *testing.T) {
	seed, found := uint64(162), map[int]int{}
	for leaves := 1; leaves <= 12; leaves++ {
		for range 12 {
			list := leafyProof(leaves, &seed)
			if len(list) > 40 {
				continue
			}
			n, ok := impl.NetOf(list)
			if found[leaves]++; !ok || len(impl.ParLinks(n)) != leaves-1 || !checkNetGraph(t, n) || !impl.CorrectByContraction(n) {
				t.Fatalf("CorrectByContraction = false for %d leaves, of%s", leaves, describeNet(n))
			}
			if impl.CorrectBySwitchings(n) != (leaves <= 11) {
				t.Fatalf("CorrectBySwitchings of %d par links, of%s", leaves-1, describeNet(n))
			}
			if more, ok := impl.LinkNet(n, par, 0, 1); ok && !impl.CorrectByContraction(more) {
				t.Fatalf("CorrectByContraction = false of%s", describeNet(more))
			}
			for _, kind := range []int64{cut, tensor} {
				if more, ok := impl.LinkNet(n, kind, 0, 1); ok && (impl.CorrectByContraction(more) || checkNetGraph(t, more)) {
					t.Fatalf("CorrectByContraction = true of%s", describeNet(more))
				}
			}
		}
	}
	if found[1] < 12 || found[11] < 6 || found[12] < 3 {
		t.Fatal("too few proofs", found)
	}
	for pars := range 23 {
		n := parChains(pars)
		if !isNet(n) || len(impl.ParLinks(n)) != pars || impl.CorrectByContraction(n) || checkNetGraph(t, n) {
			t.Fatal("CorrectByContraction of par links alone", pars)
		}
	}
}

// The empty net has no link, and its graph no node, so that it is not correct.
func TestContractionVerdictsWrittenOut(t *testing.T) {
	for _, c := range verdicts {
		n := netOf(c.net)
		if impl.CorrectByContraction(n) != (c.index == -1) || checkNetGraph(t, n) != (c.index == -1) {
			t.Fatalf("CorrectByContraction = %v of %s", impl.CorrectByContraction(n), c.net)
		}
		agree(t, n)
	}
	if impl.CorrectByContraction(impl.Net{}) || impl.CorrectByContraction(impl.Net{Wires: [][]int64{}, Links: []impl.Link{}, Concl: []int64{}}) {
		t.Fatal("CorrectByContraction of the empty net")
	}
}

// Where only one of up to 1024 switchings fails, the net does not contract either.
func TestOnlyFailingSwitchingContracts(t *testing.T) {
	seed := uint64(163)
	for pars := range 11 {
		for index := range int64(1) << pars {
			if pars > 5 && index > 1 && index&(index-1) != 0 && index&(index+1) != 0 && choose(&seed, 1<<pars) > 12 {
				continue
			}
			if n := oneFailing(pars, index); agree(t, n) || checkNetGraph(t, n) {
				t.Fatalf("CorrectByContraction = true of%s", describeNet(n))
			}
		}
	}
}

// Nets of all kinds, correct or not: those that are written out, those at the limits, and others in any order.
func TestContractionVerdictsOfNets(t *testing.T) {
	found := map[[2]bool]int{}
	for _, n := range slices.Concat(someNets(), someAtomicNets()) {
		correct := checkNetGraph(t, n)
		few := len(wantLinksOf(n, par)) <= 10
		if few && agree(t, n) != correct {
			t.Fatalf("CorrectByContraction = %v of%s", !correct, describeNet(n))
		}
		found[[2]bool{few, correct}]++
	}
	if found[[2]bool{true, true}] < 60 || found[[2]bool{true, false}] < 400 || found[[2]bool{false, false}] < 2 {
		t.Fatal("too few nets", found)
	}
}

// Every net that links make of two axioms contracts to a point if its links are those of a proof, and otherwise not.
func TestContractionVerdictsOfAllNetsOfTwoAxioms(t *testing.T) {
	seed, visited, found := uint64(164), 0, map[bool]int{}
	for _, forms := range [][]tree{{leaf(1)}, {leaf(1), leaf(1)}, {leaf(1), leaf(2)}} {
		joinedInAllWays(axioms(forms...), func(n impl.Net) {
			correct := agree(t, n)
			if correct != hasProof(n) {
				t.Fatalf("CorrectByContraction = %v although there is a proof or none, of%s", correct, describeNet(n))
			}
			if visited++; visited%5 == 0 {
				g, _ := impl.GraphOfNet(n)
				if last := inAnyOrder(t, g, &seed); checkNetGraph(t, n) != correct || impl.IsPoint(last) != correct {
					t.Fatalf("contraction in another order ends in%s\nof%s", describePaired(last), describeNet(n))
				}
			}
			found[correct]++
		})
	}
	if visited < 3000 || found[true] < 500 || found[false] < 800 {
		t.Fatal("too few nets", visited, found)
	}
}

// Nets with up to twelve links, in any order, contract to a point if their links are those of a proof, and otherwise not.
func TestContractionVerdictsByProofs(t *testing.T) {
	seed, found := uint64(165), map[bool]int{}
	for range 1500 {
		n := smallGrownNet(&seed)
		correct := agree(t, n)
		if found[correct]++; correct != hasProof(n) {
			t.Fatalf("CorrectByContraction = %v of%s", correct, describeNet(n))
		}
	}
	if found[true] < 100 || found[false] < 500 {
		t.Fatal("too few nets", found)
	}
}

// Two correct nets side by side are split; a tensor or a cut between them makes them one correct net, and one within either of them a
// cycle. A par does not connect them.
func TestContractionOfJoinedNets(t *testing.T) {
	found := map[int64]map[bool]int{cut: {}, tensor: {}, par: {}}
	eachTwoCorrectNets(func(a, b, both impl.Net) {
		if impl.CorrectByContraction(both) || !impl.CorrectByContraction(a) || !impl.CorrectByContraction(b) {
			t.Fatalf("CorrectByContraction of two nets:%s", describeNet(both))
		}
		eachLinked(both, func(kind, i, j int64, n impl.Net) {
			between := (i < int64(len(a.Concl))) != (j < int64(len(a.Concl)))
			if got := impl.CorrectByContraction(n); got != (between && kind != par) {
				t.Fatalf("CorrectByContraction = %v after a link of the kind %d, of%s", got, kind, describeNet(n))
			}
			found[kind][between]++
		})
	})
	for _, kind := range []int64{cut, tensor, par} {
		if found[kind][true] < 200 || found[kind][false] < 50 {
			t.Fatal("too few links", found)
		}
	}
}

// A par of two conclusions of a correct net makes a correct net, and a tensor or a cut of them a cycle.
func TestContractionOfLinksWithinNets(t *testing.T) {
	found := map[int64]int{}
	for _, a := range correctNets() {
		eachLinked(a, func(kind, _, _ int64, n impl.Net) {
			if got := impl.CorrectByContraction(n); got != (kind == par) {
				t.Fatalf("CorrectByContraction = %v after a link of the kind %d, of%s", got, kind, describeNet(n))
			}
			found[kind]++
		})
	}
	if found[cut] < 50 || found[tensor] < 1000 || found[par] < 1000 {
		t.Fatal("too few links", found)
	}
}

// The numbers of the wires and links, and the order of the conclusions, do not change the verdict.
func TestContractionOfRenumberedNets(t *testing.T) {
	seed, found := uint64(166), map[bool]int{}
	for _, n := range slices.Concat(smallNets(48), correctNets(), []impl.Net{parChains(11), parChains(22)}) {
		correct := impl.CorrectByContraction(n)
		for range 3 {
			other, _ := impl.RenumberNet(n, somePlaces(len(n.Wires), &seed), somePlaces(len(n.Links), &seed))
			other.Concl = moved(other.Concl, somePlaces(len(n.Concl), &seed))
			if found[correct]++; checkNetGraph(t, other) != correct || impl.CorrectByContraction(other) != correct {
				t.Fatalf("CorrectByContraction = %v of other numbers, of%s", !correct, describeNet(n))
			}
		}
	}
	if found[true] < 100 || found[false] < 100 {
		t.Fatal("too few nets", found)
	}
}
