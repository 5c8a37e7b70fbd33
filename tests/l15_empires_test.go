package tests

import (
	"slices"
	"testing"

	"loop.example/g00872/impl"
)

// The examples of the document about wires.
func TestExamplesOfKingdoms(t *testing.T) {
	joined, two := netOf(parOfAxiom), netOf("A, ~A, B, ~B, (~A*B); ax 0 1, ax 2 3, tensor 1 2 4; 0 4 3")
	if impl.SubnetCount(joined, 0) != 1 || impl.SubnetCount(joined, 1) != 1 {
		t.Fatal("SubnetCount", impl.SubnetCount(joined, 0), impl.SubnetCount(joined, 1))
	}
	for _, c := range []struct {
		name  string
		find  func(impl.Net, int64) ([]int64, bool)
		wire  int64
		links []int64
	}{
		{"KingdomOf", impl.KingdomOf, 4, []int64{0, 1, 2}}, {"KingdomOf", impl.KingdomOf, 0, []int64{0}}, {"KingdomOf", impl.KingdomOf, 3, []int64{1}},
		{"EmpireOf", impl.EmpireOf, 0, []int64{0, 1, 2}}, {"EmpireOf", impl.EmpireOf, 3, []int64{0, 1, 2}}, {"EmpireOf", impl.EmpireOf, 4, []int64{0, 1, 2}}, {"SwitchingEmpire", impl.SwitchingEmpire, 1, []int64{0}},
	} {
		if got, ok := c.find(two, c.wire); !ok || !slices.Equal(got, c.links) {
			t.Fatal(c.name, c.wire, got, ok)
		}
	}
	for wire := range int64(4) {
		if !impl.InKingdom(two, wire, 4) {
			t.Fatal("InKingdom", wire)
		}
	}
}

// realmOfWire is a net, written out, with a wire, the number of subnet sets with the wire in their border, and its kingdom and empire.
type realmOfWire struct {
	net             string
	wire, count     int64
	kingdom, empire string
}

// Correct nets with up to ten links: a par of two outputs of tensors, a par above a tensor, a cut of a par and a tensor, and others with
// several par links.
const (
	parUnderTensors = "A, ~A, B, ~B, C, ~C, (A*B), (~B*C), ((A*B)|(~B*C)); ax 0 1, ax 2 3, ax 4 5, tensor 0 2 6, tensor 3 4 7, par 6 7 8; 1 8 5"
	parOverTensor   = "A, ~A, B, ~B, (A|~A), ((A|~A)*B); ax 0 1, ax 2 3, par 0 1 4, tensor 4 2 5; 5 3"
	parAgainst      = "A, ~A, A, ~A, A, ~A, (A*~A), (~A|A); ax 0 1, ax 2 3, ax 4 5, tensor 0 3 6, par 5 4 7, cut 6 7; 1 2"
	crossedPars     = "A, ~A, B, ~B, (A*B), (~B|(A*B)), (~A|(~B|(A*B))); ax 0 1, ax 2 3, tensor 0 2 4, par 3 4 5, par 1 5 6; 6"
)

var realmsOfWires = []realmOfWire{
	{"A, ~A; ax 0 1; 0 1", 0, 1, "0", "0"}, {"A, ~A; ax 0 1; 0 1", 1, 1, "0", "0"}, {"(A*B), (~A|~B); ax 1 0; 1 0", 0, 1, "0", "0"},
	// Inputs of a par, of a tensor and of a cut, conclusions, and outputs of axioms beside them.
	{parOfAxiom, 0, 1, "0", "0"}, {parOfAxiom, 1, 1, "0", "0"}, {parOfAxiom, 2, 1, "0 1", "0 1"}, {tensorOfTwo, 0, 1, "0", "0"}, {tensorOfTwo, 1, 2, "0", "0 1 2"}, {tensorOfTwo, 2, 1, "1", "1"}, {tensorOfTwo, 3, 2, "1", "0 1 2"}, {tensorOfTwo, 4, 1, "0 1 2", "0 1 2"},
	{cutOfTwo, 0, 2, "0", "0 1 2"}, {cutOfTwo, 1, 1, "0", "0"}, {cutOfTwo, 2, 1, "2", "2"}, {cutOfTwo, 3, 2, "2", "0 1 2"}, {tensorTurned, 1, 2, "2", "0 1 2"}, {tensorTurned, 2, 1, "1", "1"}, {tensorTurned, 4, 1, "0 1 2", "0 1 2"},
	// The kingdom of the output of a par contains what connects its inputs; the empire of an input of a par ends where the other input is needed.
	{joinedTwice, 0, 1, "0", "0"}, {joinedTwice, 1, 2, "0", "0 1 2"}, {joinedTwice, 3, 2, "1", "0 1 2"}, {joinedTwice, 4, 2, "0 1 2", "0 1 2 3"}, {joinedTwice, 5, 1, "0 1 2 3", "0 1 2 3"},
	{parUnderTensors, 0, 1, "0", "0"}, {parUnderTensors, 1, 4, "0", "0 1 2 3 4 5"}, {parUnderTensors, 2, 2, "1", "1 2 4"}, {parUnderTensors, 3, 2, "1", "0 1 3"}, {parUnderTensors, 5, 4, "2", "0 1 2 3 4 5"}, {parUnderTensors, 6, 2, "0 1 3", "0 1 2 3 4"}, {parUnderTensors, 7, 2, "1 2 4", "0 1 2 3 4"}, {parUnderTensors, 8, 1, "0 1 2 3 4 5", "0 1 2 3 4 5"},
	{parOverTensor, 0, 1, "0", "0"}, {parOverTensor, 2, 1, "1", "1"}, {parOverTensor, 3, 2, "1", "0 1 2 3"}, {parOverTensor, 4, 1, "0 2", "0 2"}, {parOverTensor, 5, 1, "0 1 2 3", "0 1 2 3"},
	{crossedPars, 1, 3, "0", "0 1 2 3"}, {crossedPars, 3, 2, "1", "0 1 2"}, {crossedPars, 4, 1, "0 1 2", "0 1 2"}, {crossedPars, 5, 1, "0 1 2 3", "0 1 2 3"}, {crossedPars, 6, 1, "0 1 2 3 4", "0 1 2 3 4"}, {crossedPars, 0, 1, "0", "0"},
	// A cut belongs to the empire and not to the kingdom, unless a par below needs it.
	{threeInARow, 0, 3, "0", "0 1 2 3 4"}, {threeInARow, 1, 1, "0", "0"}, {threeInARow, 2, 2, "1", "1 2 4"}, {threeInARow, 3, 2, "1", "0 1 3"}, {threeInARow, 4, 1, "2", "2"}, {threeInARow, 5, 3, "2", "0 1 2 3 4"},
	{parBelowCut, 0, 1, "0 1 2 3", "0 1 2 3"}, {parBelowCut, 1, 2, "3", "1 2 3"}, {parBelowCut, 2, 1, "3", "3"}, {parBelowCut, 3, 1, "2", "2"}, {parBelowCut, 4, 2, "2", "1 2 3"},
	{parAgainst, 6, 1, "0 1 3", "0 1 3"}, {parAgainst, 7, 1, "2 4", "2 4"}, {parAgainst, 1, 3, "0", "0 1 2 3 4 5"}, {parAgainst, 2, 3, "1", "0 1 2 3 4 5"}, {parAgainst, 5, 1, "2", "2"}, {parAgainst, 0, 1, "0", "0"},
	// The links have other numbers than the order of the proof.
	{tensorsFirst, 0, 1, "0 2 4", "0 2 4"}, {tensorsFirst, 2, 3, "4", "0 1 2 3 4"}, {tensorsFirst, 6, 2, "1", "0 1 2 3 4"}, {tensorsFirst, 7, 1, "0 1 2 3 4", "0 1 2 3 4"}, {tensorsFirst, 5, 1, "1", "1"},
}

func TestRealmsWrittenOut(t *testing.T) {
	for _, c := range realmsOfWires {
		n := netOf(c.net)
		if got := impl.SubnetCount(n, c.wire); got != c.count {
			t.Fatal("SubnetCount", c.wire, got, "of", c.net)
		}
		for name, find := range map[string]func(impl.Net, int64) ([]int64, bool){"KingdomOf": impl.KingdomOf, "EmpireOf": impl.EmpireOf, "SwitchingEmpire": impl.SwitchingEmpire} {
			want := numbersOf(c.empire)
			if name == "KingdomOf" {
				want = numbersOf(c.kingdom)
			}
			if got, ok := find(n, c.wire); !ok || !slices.Equal(got, want) {
				t.Fatal(name, c.wire, got, ok, "of", c.net)
			}
		}
		checkRealms(t, n)
	}
}

// seenRealms counts what the tests have seen of the realms of wires.
type seenRealms map[string]int

// add counts the realms of a net.
func (seen seenRealms) add(n impl.Net, realms []realm) {
	seen["nets"]++
	kinds := map[int64]string{ax: "of an axiom", cut: "of a cut", tensor: "of a tensor", par: "of a par"}
	for wire, r := range realms {
		seen["output "+kinds[n.Links[wantEnd(n, int64(wire), 'o')].Kind]]++
		if consumer := wantEnd(n, int64(wire), 'i'); consumer >= 0 {
			seen["input "+kinds[n.Links[consumer].Kind]]++
		} else {
			seen["conclusion"]++
		}
		switch {
		case r.count == 1:
			seen["one subnet set"]++
		case r.count == 2:
			seen["two subnet sets"]++
		default:
			seen["more subnet sets"]++
		}
		if len(r.kingdom) > 1 && len(r.kingdom) < len(r.empire) && len(r.empire) < len(n.Links) {
			seen["between"]++
		}
	}
}

// wantAll fails unless everything has been seen often.
func (seen seenRealms) wantAll(t *testing.T, least int) {
	t.Helper()
	for _, what := range []string{"nets", "output of an axiom", "output of a tensor", "output of a par", "input of a cut", "input of a tensor", "input of a par", "conclusion", "one subnet set", "two subnet sets", "more subnet sets"} {
		if seen[what] < least {
			t.Fatal("too few realms", what, seen)
		}
	}
}

// The kingdom of each wire is the smallest of its subnet sets, and its empire the greatest one: for all correct nets of one axiom and of two.
func TestRealmsOfAllNetsOfTwoAxioms(t *testing.T) {
	seed, seen := uint64(271), seenRealms{}
	for _, forms := range [][]tree{{leaf(1)}, {leaf(1), leaf(1)}, {leaf(1), leaf(-2)}} {
		joinedInAllWays(axioms(forms...), func(n impl.Net) {
			if hasProof(n) {
				n = mixed(n, &seed)
				seen.add(n, checkRealms(t, n))
			}
		})
	}
	seen.wantAll(t, 30)
}

// The same for the nets of multiplicative proofs and their parts that have at most ten links.
func TestRealmsOfProofs(t *testing.T) {
	seed, seen, links := uint64(272), seenRealms{}, map[int]int{}
	for at, n := range slices.Concat(correctNets(), netsOfParts()) {
		if len(n.Links) <= 10 && (at%3 == 0 && at < 600 || at%40 == 0) {
			n = mixed(n, &seed)
			links[len(n.Links)]++
			seen.add(n, checkRealms(t, n))
		}
	}
	seen.wantAll(t, 100)
	for count := 1; count <= 10; count++ {
		if links[count] < 3 {
			t.Fatal("too few nets", links)
		}
	}
}

// The same for nets of eight to ten links, with and without cuts, and with up to three par links.
func TestRealmsOfGrownNets(t *testing.T) {
	seed, seen, links, cuts, pars := uint64(273), seenRealms{}, map[int]int{}, map[int]int{}, map[int]int{}
	for range 25 {
		for _, size := range [][2]int{{3, 2}, {3, 3}, {4, 1}, {4, 2}, {4, 3}, {5, 0}, {5, 1}} {
			n := grownCorrect(size[0], size[1], &seed)
			links[len(n.Links)]++
			cuts[min(len(wantLinksOf(n, cut)), 2)]++
			pars[len(wantLinksOf(n, par))]++
			seen.add(n, checkRealms(t, n))
		}
	}
	seen.wantAll(t, 100)
	if seen["between"] < 50 || links[8] < 20 || links[9] < 20 || links[10] < 20 || cuts[0] < 20 || cuts[1] < 20 || cuts[2] < 10 || pars[0] < 20 || pars[1] < 20 || pars[2] < 20 || pars[3] < 20 {
		t.Fatal("too few nets", seen, links, cuts, pars)
	}
}

// arcsOfWire returns in how many graphs of switchings a wire of a valid net has an arc, and in how many it has none.
func arcsOfWire(n impl.Net, wire int64) (with, without int) {
	all := allArcs(n)
	for index := range wantCount(n) {
		arcs := chosenArcs(n, all, switchingAt(index, len(wantLinksOf(n, par))))
		if slices.ContainsFunc(arcs, func(arc impl.Arc) bool { return arc.Wire == wire }) {
			with++
		} else {
			without++
		}
	}
	return with, without
}

// SwitchingEmpire is EmpireOf: of a conclusion, which has no arc, it is all links; an input of a tensor or a cut has an arc in all graphs,
// and an input of a par in half of them.
func TestEmpiresBySwitchings(t *testing.T) {
	seed, found := uint64(274), map[string]int{}
	for range 150 {
		n := grownCorrect(2+choose(&seed, 3), 1+choose(&seed, 3), &seed)
		for wire := range int64(len(n.Wires)) {
			empire, ok := impl.EmpireOf(n, wire)
			got, gotOk := impl.SwitchingEmpire(n, wire)
			if !ok || !gotOk || !slices.Equal(got, empire) || !slices.Equal(got, wantSwitchingEmpire(n, wire)) {
				t.Fatalf("SwitchingEmpire(%d) = %v, EmpireOf = %v of%s", wire, got, empire, describeNet(n))
			}
			with, without := arcsOfWire(n, wire)
			switch {
			case with == 0:
				found["no arc"]++
				if !slices.Contains(n.Concl, wire) || len(empire) != len(n.Links) {
					t.Fatalf("EmpireOf(%d) = %v of%s", wire, empire, describeNet(n))
				}
			case without == 0:
				found["all arcs"]++
			default:
				found["some arcs"]++
				if len(empire) == len(n.Links) || with != without {
					t.Fatalf("EmpireOf(%d) = %v of%s", wire, empire, describeNet(n))
				}
				if len(empire) > 1 {
					found["some arcs, some links"]++
				}
			}
		}
	}
	for _, what := range []string{"no arc", "all arcs", "some arcs", "some arcs, some links"} {
		if found[what] < 100 {
			t.Fatal("too few wires", found)
		}
	}
}

// The kingdom of the output of a tensor consists of the link and of the kingdoms of its inputs, and that of a par contains these. The empires
// of both inputs of a tensor or a cut have no link in common, and those of both inputs of a terminal par are all links but the par. No link
// is in the empire of one of its inputs.
func TestRealmsOfInputs(t *testing.T) {
	seed, found := uint64(275), map[int64]int{}
	for range 200 {
		n := grownCorrect(2+choose(&seed, 4), choose(&seed, 2), &seed)
		set := func(find func(impl.Net, int64) ([]int64, bool), wire int64) uint64 {
			links, ok := find(n, wire)
			if !ok {
				t.Fatalf("no links of %d of%s", wire, describeNet(n))
			}
			return bitsOf(links)
		}
		for k, l := range n.Links {
			if found[l.Kind]++; l.Kind == ax {
				continue
			}
			kingdoms := set(impl.KingdomOf, l.A) | set(impl.KingdomOf, l.B)
			a, b, link := set(impl.EmpireOf, l.A), set(impl.EmpireOf, l.B), uint64(1)<<k
			if l.Kind == tensor && set(impl.KingdomOf, l.C) != kingdoms|link || l.Kind == par && set(impl.KingdomOf, l.C)&(kingdoms|link) != kingdoms|link {
				t.Fatalf("KingdomOf(%d) = %v of%s", l.C, listOf(set(impl.KingdomOf, l.C)), describeNet(n))
			}
			if l.Kind != par && a&b != 0 || (a|b)&link != 0 || l.Kind == par && slices.Contains(n.Concl, l.C) && (a != b || a|link != 1<<len(n.Links)-1) {
				t.Fatalf("EmpireOf(%d), EmpireOf(%d) = %v, %v of%s", l.A, l.B, listOf(a), listOf(b), describeNet(n))
			}
		}
	}
	for _, kind := range allKinds {
		if found[kind] < 50 {
			t.Fatal("too few links", found)
		}
	}
}

// Other numbers of the wires and links change the numbers in the results, and the order of the conclusions changes nothing.
func TestRealmsOfRenumberedNets(t *testing.T) {
	seed := uint64(276)
	for range 100 {
		n := grownCorrect(1+choose(&seed, 5), choose(&seed, 3), &seed)
		if len(n.Links) > 10 {
			continue
		}
		wires, links := somePlaces(len(n.Wires), &seed), somePlaces(len(n.Links), &seed)
		other, _ := wantRenumbered(n, wires, links)
		other.Concl = moved(other.Concl, somePlaces(len(n.Concl), &seed))
		for wire, place := range wires {
			for name, find := range map[string]func(impl.Net, int64) ([]int64, bool){"KingdomOf": impl.KingdomOf, "EmpireOf": impl.EmpireOf, "SwitchingEmpire": impl.SwitchingEmpire} {
				want, _ := find(n, int64(wire))
				if got, ok := find(other, place); !ok || !slices.Equal(got, slices.Sorted(slices.Values(moved(links, want)))) {
					t.Fatalf("%s(%d) = %v, %v of%s", name, place, got, ok, describeNet(other))
				}
			}
			if impl.SubnetCount(n, int64(wire)) != impl.SubnetCount(other, place) {
				t.Fatalf("SubnetCount(%d) = %d of%s", place, impl.SubnetCount(other, place), describeNet(other))
			}
			for second, secondPlace := range wires {
				if impl.InKingdom(n, int64(wire), int64(second)) != impl.InKingdom(other, place, secondPlace) {
					t.Fatalf("InKingdom(%d, %d) of%s", place, secondPlace, describeNet(other))
				}
			}
		}
	}
}

// A net that is not correct has no kingdoms, although its parts have subnets.
func TestNoRealmsOfWrongNets(t *testing.T) {
	seed, found := uint64(277), 0
	for _, c := range verdicts {
		if n := netOf(c.net); c.index != -1 {
			checkNoRealms(t, n)
		}
	}
	for _, c := range orders {
		if n := netOf(c.net); !c.correct {
			checkNoRealms(t, n)
		}
	}
	for _, n := range append(smallNets(16), impl.Net{}, oneFailing(3, 5), cutRing(5), parChains(0)) {
		if !impl.CorrectByContraction(n) {
			found++
			checkNoRealms(t, n)
		}
	}
	eachTwoCorrectNets(func(_, _, both impl.Net) {
		if len(both.Links) <= 10 {
			found++
			checkNoRealms(t, both)
		}
	})
	for range 200 {
		if n := smallGrownNet(&seed); len(n.Links) <= 10 && !hasProof(n) {
			found++
			checkNoRealms(t, n)
		}
	}
	if found < 300 {
		t.Fatal("too few nets", found)
	}
}

// Correct nets have kingdoms up to ten links, and none from eleven links on, although they have subnet sets.
func TestLimitOfLinksOfRealms(t *testing.T) {
	seed, found := uint64(278), map[int]int{}
	check := func(n impl.Net) {
		found[len(n.Links)]++
		switch {
		case !impl.CorrectByParsing(n) || !impl.IsSubnetSet(n, inOrder(len(n.Links))):
			t.Fatalf("the net is not correct:%s", describeNet(n))
		case len(n.Links) <= 10:
			checkRealms(t, n)
		default:
			checkNoRealms(t, n)
		}
	}
	for range 20 {
		for _, size := range [][2]int{{4, 3}, {5, 1}, {5, 2}, {6, 0}, {6, 1}, {5, 3}} {
			check(grownCorrect(size[0], size[1], &seed))
		}
	}
	// Five axioms with four cuts or tensors, with one par more, and with two.
	for _, n := range []impl.Net{cutChain(5), turned(cutChain(5)), tensorRow(5), cutChain(6), tensorRow(6), cutChain(24), tensorRow(16)} {
		check(n)
		last := len(n.Concl) - 1
		if more, ok := wantLinked(n, par, 0, int64(last)); ok {
			check(more)
			if more, ok = wantLinked(more, par, 0, int64(last)-1); ok && last > 1 {
				check(more)
			}
		}
	}
	for _, n := range correctNets() {
		if len(n.Links) > 10 {
			check(n)
		}
	}
	if found[9] < 3 || found[10] < 20 || found[11] < 20 || found[12] < 20 {
		t.Fatal("too few nets", found)
	}
}

// InKingdom needs both wires, and tells all outputs of a link alike.
func TestWiresInKingdoms(t *testing.T) {
	n := netOf(joinedTwice)
	inside := map[int64]string{0: "0 1", 1: "0 1", 2: "2 3", 3: "2 3", 4: "0 1 2 3 4", 5: "0 1 2 3 4 5"}
	for of, wires := range inside {
		for wire := range int64(6) {
			if got := impl.InKingdom(n, wire, of); got != slices.Contains(numbersOf(wires), wire) {
				t.Fatal("InKingdom", wire, of, got)
			}
		}
	}
	for _, odd := range slices.Concat([]int64{6, 7}, oddLinks) {
		for wire := range int64(6) {
			if impl.InKingdom(n, odd, wire) || impl.InKingdom(n, wire, odd) {
				t.Fatal("InKingdom", odd, wire)
			}
		}
		for _, other := range oddLinks {
			if impl.InKingdom(n, odd, other) {
				t.Fatal("InKingdom", odd, other)
			}
		}
	}
}
