package tests

import (
	"math"
	"slices"
	"testing"

	"loop.example/g00872/impl"
)

func TestConstantOfSubnets(t *testing.T) {
	if impl.MaxSubnetLinks != 10 {
		t.Fatal("MaxSubnetLinks", impl.MaxSubnetLinks)
	}
}

// The examples of the document about sets.
func TestExamplesOfSubnets(t *testing.T) {
	n := netOf(parOfAxiom)
	if !impl.IsClosedSet(n, []int64{0}) || !impl.IsClosedSet(n, []int64{0, 1}) || impl.IsClosedSet(n, []int64{1}) {
		t.Fatal("IsClosedSet")
	}
	if got, ok := impl.SubNet(n, []int64{0}); !ok || !sameNet(got, netOf("A, ~A; ax 0 1; 0 1")) {
		t.Fatal("SubNet", describeNet(got), ok)
	}
	wantList(t, "BorderOf", impl.BorderOf(n, []int64{0}), []int64{0, 1})
	if two := netOf(tensorOfTwo); !impl.IsClosedSet(two, []int64{0, 1}) || impl.IsSubnetSet(two, []int64{0, 1}) {
		t.Fatal("IsSubnetSet")
	}
}

// closedSet is a net, written out, with a closed set of its links, the border of the set, its subnet, and whether this is correct.
type closedSet struct {
	net, links, border, subnet string
	correct                    bool
}

// A net with two tensors side by side of which the first one has greater wires, and whose conclusions are in descending order.
const tensorsApart = "A, ~A, B, ~B, C, ~C, D, ~D, (C*D), (A*B); ax 6 7, ax 4 5, tensor 4 6 8, ax 2 3, ax 0 1, tensor 0 2 9; 9 8 7 5 3 1"

var closedSets = []closedSet{
	{"A, ~A; ax 0 1; 0 1", "0", "0 1", "A, ~A; ax 0 1; 0 1", true}, {"A, ~A; ax 1 0; 1 0", "0", "0 1", "A, ~A; ax 1 0; 0 1", true}, {"(A*B), (~A|~B); ax 0 1; 1 0", "0", "0 1", "(A*B), (~A|~B); ax 0 1; 0 1", true},
	// An input of a link of the set is not in the border; an output is, whether its consumer is not in the set or is not there.
	{parOfAxiom, "0", "0 1", "A, ~A; ax 0 1; 0 1", true}, {parOfAxiom, "0 1", "2", parOfAxiom, true}, {tensorOfAxiom, "0", "0 1", "A, ~A; ax 0 1; 0 1", true}, {tensorOfAxiom, "0 1", "2", tensorOfAxiom, false}, {cutOfAxiom, "1", "0 1", "A, ~A; ax 0 1; 0 1", true}, {cutOfAxiom, "0 1", "", cutOfAxiom, false},
	{tensorOfTwo, "0", "0 1", "A, ~A; ax 0 1; 0 1", true}, {tensorOfTwo, "1", "2 3", "B, ~B; ax 0 1; 0 1", true}, {tensorOfTwo, "0 1", "0 1 2 3", "A, ~A, B, ~B; ax 0 1, ax 2 3; 0 1 2 3", false}, {tensorOfTwo, "0 1 2", "1 3 4", tensorOfTwo, true},
	{cutOfTwo, "0 2", "0 1 2 3", "A, ~A, A, ~A; ax 0 1, ax 2 3; 0 1 2 3", false}, {cutOfTwo, "0 1 2", "0 3", cutOfTwo, true}, {parOfTwo, "0 1 2", "1 3 4", parOfTwo, false}, {parOfTwo, "1", "2 3", "B, ~B; ax 0 1; 0 1", true},
	{joinedTwice, "0 1 2", "1 3 4", tensorOfTwo, true}, {joinedTwice, "0 1 3", "0 2 5", "A, ~A, B, ~B, (~A|~B); ax 0 1, ax 2 3, par 1 3 4; 0 2 4", false}, {joinedTwice, "0 1 2 3", "4 5", joinedTwice, true},
	// The links keep their order also where the producers come behind their consumers, and the wires too.
	{parBelowCut, "2", "3 4", "A, ~A; ax 0 1; 0 1", true}, {parBelowCut, "1 2 3", "1 4", "A, ~A, A, ~A; cut 1 2, ax 2 3, ax 0 1; 0 3", true}, {parBelowCut, "0 2 3", "0 2 3", "(A|~A), A, ~A, A, ~A; par 1 4 0, ax 3 4, ax 1 2; 0 2 3", false}, {parBelowCut, "0 1 2 3", "0", parBelowCut, true},
	{tensorsFirst, "0 2 4", "0 2 4", "(A*B), A, ~A, B, ~B; tensor 1 3 0, ax 3 4, ax 1 2; 0 2 4", true}, {tensorsFirst, "1 4", "1 2 5 6", "A, ~A, C, ~C; ax 2 3, ax 0 1; 0 1 2 3", false}, {tensorsFirst, "0 1 2 3 4", "2 4 6 7", "(A*B), A, ~A, B, ~B, C, ~C, ((A*B)*C); tensor 1 3 0, ax 5 6, ax 3 4, tensor 0 5 7, ax 1 2; 2 4 6 7", true},
	{tensorsApart, "0 1 2", "5 7 8", "C, ~C, D, ~D, (C*D); ax 2 3, ax 0 1, tensor 0 2 4; 1 3 4", true}, {tensorsApart, "3 4 5", "1 3 9", "A, ~A, B, ~B, (A*B); ax 2 3, ax 0 1, tensor 0 2 4; 1 3 4", true},
	{tensorsApart, "1 3 4 5", "1 3 4 5 9", "A, ~A, B, ~B, C, ~C, (A*B); ax 4 5, ax 2 3, ax 0 1, tensor 0 2 6; 1 3 4 5 6", false}, {tensorsApart, "0 1 2 3 4 5", "1 3 5 7 8 9", "A, ~A, B, ~B, C, ~C, D, ~D, (C*D), (A*B); ax 6 7, ax 4 5, tensor 4 6 8, ax 2 3, ax 0 1, tensor 0 2 9; 1 3 5 7 8 9", false},
	// Correct subnets of nets that are not correct: beside another part, and on a cycle.
	{"A, ~A, B, ~B, (B|~B); ax 0 1, ax 2 3, par 2 3 4; 4 1 0", "1 2", "4", "B, ~B, (B|~B); ax 0 1, par 0 1 2; 2", true}, {cycleFirst, "0", "0 1", "A, ~A; ax 0 1; 0 1", true}, {cycleFirst, "0 1 2", "1 3 4", "A, ~A, B, ~B, (A|B); ax 0 1, ax 2 3, par 0 2 4; 1 3 4", false},
	{"A, ~A, B, ~B, (A*B), (~A*~B); ax 0 1, ax 2 3, tensor 0 2 4, tensor 1 3 5; 4 5", "0 1 3", "0 2 5", "A, ~A, B, ~B, (~A*~B); ax 0 1, ax 2 3, tensor 1 3 4; 0 2 4", true}, {"A, ~A, B, ~B, (A*B), (~A|~B); ax 0 1, ax 2 3, tensor 0 2 4, par 1 3 5, cut 4 5; ", "0 1 2 3", "4 5", joinedTwice, true},
	{"A, ~A, B, ~B, (A*B), (~A|~B); ax 0 1, ax 2 3, tensor 0 2 4, par 1 3 5, cut 4 5; ", "0 1 2 3 4", "", "A, ~A, B, ~B, (A*B), (~A|~B); ax 0 1, ax 2 3, tensor 0 2 4, par 1 3 5, cut 4 5; ", false}, {crossedTwice, "0 1 2", "0 3", "A, ~A, A, ~A; ax 0 1, cut 1 2, ax 2 3; 0 3", true},
}

func TestClosedSetsWrittenOut(t *testing.T) {
	for _, c := range closedSets {
		n, links := netOf(c.net), numbersOf(c.links)
		wantList(t, "BorderOf "+c.links+" of "+c.net, impl.BorderOf(n, links), numbersOf(c.border))
		if got, ok := impl.SubNet(n, links); !ok || !sameNet(got, netOf(c.subnet)) {
			t.Fatalf("SubNet of %s and %s = %v with%s", c.net, c.links, ok, describeNet(got))
		}
		if !impl.IsClosedSet(n, links) || impl.IsSubnetSet(n, links) != c.correct {
			t.Fatalf("IsClosedSet, IsSubnetSet of %s and %s = %v, %v", c.net, c.links, impl.IsClosedSet(n, links), impl.IsSubnetSet(n, links))
		}
		if !checkSet(t, n, links, c.correct) || proofSets(n)[bitsOf(links)] != c.correct {
			t.Fatal("the tests do not know the closed set", c.links, "of", c.net)
		}
	}
}

// The producer of one input is missing, or of both, or that of an input of another link of the set.
func TestSetsThatAreNotClosed(t *testing.T) {
	for net, sets := range map[string][]string{
		parOfAxiom: {"1"}, tensorOfAxiom: {"1"}, cutOfAxiom: {"0"}, tensorOfTwo: {"2", "0 2", "1 2"}, cutOfTwo: {"1", "0 1", "1 2"}, parOfTwo: {"2", "0 2", "1 2"}, joinedTwice: {"2", "3", "2 3", "0 2", "1 3", "0 2 3", "1 2 3"},
		threeInARow: {"3", "4", "0 3", "1 3", "0 2 3", "0 1 3 4", "1 2 3 4", "0 2 3 4"}, tensorsFirst: {"0", "3", "0 3", "0 2", "0 4", "1 3", "0 1 3", "0 1 2 3", "1 2 3 4", "0 2 3 4"}, parBelowCut: {"0", "1", "0 1", "0 3", "1 2", "0 1 2", "0 1 3"},
	} {
		for _, links := range sets {
			checkNoSet(t, netOf(net), numbersOf(links))
		}
	}
}

// The empty list, elements that are equal or in another order, and numbers that are no links.
func TestListsThatAreNoSets(t *testing.T) {
	for _, n := range []impl.Net{netOf(parOfAxiom), netOf(tensorOfTwo), netOf(tensorsFirst), netOf(cycleFirst), cutChain(24), cutRing(24), tensorRow(5), {}} {
		links := inOrder(len(n.Links))
		checkNoSet(t, n, nil)
		checkNoSet(t, n, []int64{})
		if len(links) > 0 != impl.IsClosedSet(n, links) {
			t.Fatalf("IsClosedSet(%v) = %v of%s", links, !impl.IsClosedSet(n, links), describeNet(n))
		}
		for at := range links {
			checkNoSet(t, n, slices.Insert(slices.Clone(links), at, links[at]))
			checkNoSet(t, n, append(slices.Clone(links), links[at]))
			for other := range at {
				turned := slices.Clone(links)
				turned[at], turned[other] = turned[other], turned[at]
				checkNoSet(t, n, turned)
			}
		}
		for _, odd := range append([]int64{int64(len(links)), int64(len(links)) + 1}, oddLinks...) {
			checkNoSet(t, n, []int64{odd})
			checkNoSet(t, n, append(slices.Clone(links), odd))
			checkNoSet(t, n, append([]int64{odd}, links...))
		}
	}
	// Equal axioms are closed sets as they are.
	two := netOf("A, ~A, A, ~A; ax 0 1, ax 2 3; 0 1 2 3")
	for _, links := range [][]int64{{0, 0}, {1, 1}, {1, 0}, {0, 1, 1}, {0, 0, 1}, {0, 1, 0}, {0, 64}, {0, 65}, {64}, {65}, {-64}, {-63}, {0, 1, 2}, {-1, 0}, {0, -1}} {
		checkNoSet(t, two, links)
	}
	for _, links := range [][]int64{{0}, {1}, {0, 1}} {
		checkSet(t, two, links, len(links) == 1)
	}
}

// Among all lists of the numbers from -1 to the number of links, exactly the expected ones are closed sets, and subnet sets.
func TestAllListsAsSets(t *testing.T) {
	found := map[bool]int{}
	for _, text := range []string{"; ; ", "A, ~A; ax 0 1; 1 0", parOfAxiom, tensorOfAxiom, cutOfAxiom, tensorOfTwo, cutOfTwo, parOfTwo, joinedTwice, crossedTwice, cycleSecond, "(A*B), A, ~A, B, ~B; tensor 1 3 0, ax 1 2, ax 3 4; 2 0 4"} {
		n := netOf(text)
		sets := proofSets(n)
		var extend func(list []int64)
		extend = func(list []int64) {
			isSubnet := wantClosed(n, list) && sets[bitsOf(list)]
			found[checkSet(t, n, list, isSubnet)]++
			for link := int64(-1); len(list) < 4 && link <= int64(len(n.Links)); link++ {
				extend(append(slices.Clone(list), link))
			}
		}
		extend(nil)
	}
	if found[true] < 30 || found[false] < 5000 {
		t.Fatal("too few lists", found)
	}
}

// All sets of links of nets of all kinds, correct or not, in any order.
func TestAllSetsOfNets(t *testing.T) {
	seed, closed, subnets, found := uint64(261), 0, 0, map[bool]int{}
	check := func(n impl.Net) {
		some, correct := checkAllSets(t, n)
		closed, subnets = closed+some, subnets+correct
		found[len(n.Links) > 0 && hasProof(n)]++
	}
	for at, n := range slices.Concat(smallNets(16), correctNets()) {
		if len(n.Links) <= 8 && at%2 == 0 {
			check(mixed(n, &seed))
		}
	}
	for range 100 {
		if n := smallGrownNet(&seed); len(n.Links) <= 9 {
			check(n)
		}
	}
	for _, n := range []impl.Net{grownCorrect(5, 1, &seed), grownCorrect(4, 3, &seed), tensorRow(5), cutRing(5), turned(cutChain(5))} {
		check(n)
	}
	if found[true] < 100 || found[false] < 100 || subnets < 1000 || closed < 2*subnets {
		t.Fatal("too few sets", found, closed, subnets)
	}
}

// The set of all links of a net is closed, and a subnet set exactly if the net is correct; its subnet is the net with the conclusions in
// ascending order. A set of one link is closed exactly if the link is an axiom.
func TestWholeNetsAsSubnets(t *testing.T) {
	seed, found := uint64(262), map[bool]int{}
	for _, n := range append(parsedNets(), correctNets()...) {
		n = mixed(n, &seed)
		correct := impl.CorrectByContraction(n)
		if len(n.Links) > 0 {
			found[correct]++
			all, sorted := inOrder(len(n.Links)), slices.Sorted(slices.Values(n.Concl))
			if got, ok := impl.SubNet(n, all); !ok || !sameNet(got, withConclusions(n, sorted...)) || impl.IsSubnetSet(n, all) != correct {
				t.Fatalf("SubNet of all links = %v with%s\nof%s", ok, describeNet(got), describeNet(n))
			}
			wantList(t, "BorderOf all links", impl.BorderOf(n, all), sorted)
		}
		for k, l := range n.Links {
			if one := []int64{int64(k)}; impl.IsClosedSet(n, one) != (l.Kind == ax) || impl.IsSubnetSet(n, one) != (l.Kind == ax) || l.Kind == ax && len(impl.BorderOf(n, one)) != 2 {
				t.Fatalf("IsClosedSet(%v), BorderOf = %v, %v of%s", one, impl.IsClosedSet(n, one), impl.BorderOf(n, one), describeNet(n))
			}
		}
	}
	if found[true] < 300 || found[false] < 300 {
		t.Fatal("too few nets", found)
	}
}

// linksAbove returns some links of a valid net, as bits, with all that are above them.
func linksAbove(n impl.Net, set uint64) uint64 {
	arcs := allArcs(n)
	for range n.Links {
		for _, arc := range arcs {
			set |= set >> arc.To & 1 << arc.From
		}
	}
	return set
}

// linksNotBelow returns the links of a valid net, as bits, that are not below one of some links.
func linksNotBelow(n impl.Net, set uint64) uint64 {
	out := uint64(0)
	for link := range n.Links {
		if linksAbove(n, 1<<link)&set == 0 {
			out |= 1 << link
		}
	}
	return out
}

// There is no limit of links for sets: those of nets of up to 48 links.
func TestSetsOfLargeNets(t *testing.T) {
	seed, found := uint64(263), map[[2]bool]int{}
	check := func(n impl.Net, set uint64) {
		sub, closed := wantSub(n, listOf(set))
		correct := closed && wantOrder(sub, slices.Min).isWhole()
		if checkSet(t, n, listOf(set), correct) {
			found[[2]bool{len(sub.Links) > 10, correct}]++
		}
	}
	nets := []impl.Net{fullNets()[25], parChains(22), cutChain(24), cutRing(24), tensorRow(16)}
	for range 7 {
		f := multTree(19+2*choose(&seed, 3), &seed)
		half := len(f.leaves())
		n, _ := wantLinkedNet(seqOfTrees([]tree{f, f.dual()}), append(inOrder(2 * half)[half:], inOrder(half)...))
		nets = append(nets, n)
	}
	for _, n := range nets {
		n = mixed(n, &seed)
		for link := range n.Links {
			other := choose(&seed, uint64(len(n.Links)))
			for _, set := range []uint64{linksAbove(n, 1<<link), linksNotBelow(n, 1<<link), linksAbove(n, 1<<link|1<<other)} {
				check(n, set)
				check(n, set^1<<choose(&seed, uint64(len(n.Links))))
			}
		}
	}
	for _, kind := range [][2]bool{{true, true}, {true, false}, {false, true}, {false, false}} {
		if found[kind] < 40 {
			t.Fatal("too few sets", found)
		}
	}
}

// The subnet sets of a chain of cuts are those of the axioms from one to another one, with all cuts between them.
func TestSubnetsOfChains(t *testing.T) {
	for _, count := range []int{2, 3, 11, 24} {
		n := cutChain(count)
		for first := range int64(count) {
			for last := first; last < int64(count); last++ {
				links := append(inOrder(count)[first:last+1], inOrder(2*count - 1)[int64(count)+first:int64(count)+last]...)
				if !impl.IsSubnetSet(n, links) || !slices.Equal(impl.BorderOf(n, links), []int64{2 * first, 2*last + 1}) {
					t.Fatal("IsSubnetSet", links, count, impl.BorderOf(n, links))
				}
				for at := int64(count) + first; at < int64(count)+last; at++ {
					if less := slices.DeleteFunc(slices.Clone(links), func(link int64) bool { return link == at }); impl.IsSubnetSet(n, less) || !impl.IsClosedSet(n, less) {
						t.Fatal("IsSubnetSet without a cut", less, count)
					}
				}
			}
		}
	}
}

// A net that is not valid has no sets, whatever the reason is.
func TestSubnetsOfBrokenNets(t *testing.T) {
	check := func(n impl.Net) {
		for _, links := range [][]int64{nil, {}, {0}, {0, 1}, {1}, {-1}, {math.MaxInt64}, {math.MinInt64}, inOrder(len(n.Links)), {int64(len(n.Links))}} {
			checkNoSet(t, n, links)
		}
		checkNoRealms(t, n)
	}
	for _, n := range brokenNets() {
		check(n)
	}
	found := map[bool]int{}
	for _, n := range []impl.Net{netOf(parOfAxiom), netOf(cutOfTwo), netOf(joinedTwice), netOf(tensorsFirst)} {
		changedNets(n, func(changed impl.Net) {
			valid := isNet(changed)
			if found[valid]++; !valid {
				check(changed)
				return
			}
			checkAllSets(t, changed)
			if len(changed.Links) > 0 && hasProof(changed) {
				checkRealms(t, changed)
			} else {
				checkNoRealms(t, changed)
			}
		})
	}
	if found[true] < 20 || found[false] < 500 {
		t.Fatal("too few nets", found)
	}
}
