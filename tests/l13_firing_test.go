package tests

import (
	"math"
	"slices"
	"testing"

	"loop.example/g00872/impl"
)

// The examples of the document.
func TestExamplesOfParsing(t *testing.T) {
	n := netOf("A, ~A, (A|~A); ax 0 1, par 0 1 2; 2")
	if !impl.IsFiringSequence(n, []int64{0, 1}) || impl.IsFiringSequence(n, []int64{1, 0}) {
		t.Fatal("IsFiringSequence")
	}
	if ready, ok := impl.ReadyLinks(n, []int64{0}); !ok || !slices.Equal(ready, []int64{1}) {
		t.Fatal("ReadyLinks", ready, ok)
	}
	if parts, ok := impl.PartsAfter(n, []int64{0}); !ok || !slices.Equal(parts, []int64{0, 0, -1}) {
		t.Fatal("PartsAfter", parts, ok)
	}
	for _, c := range []struct{ fired, open []int64 }{{[]int64{0}, []int64{0, 1}}, {[]int64{0, 1}, []int64{2}}} {
		if open, ok := impl.OpenWires(n, c.fired); !ok || !slices.Equal(open, c.open) {
			t.Fatal("OpenWires", c.fired, open, ok)
		}
	}
	wantList(t, "FiringOrder", impl.FiringOrder(n), []int64{0, 1})
	wantList(t, "LastFiringOrder", impl.LastFiringOrder(netOf("A, ~A, B, ~B, (A*B); ax 0 1, ax 2 3, tensor 0 2 4; 1 3 4")), []int64{1, 0, 2})
	wantList(t, "StuckLinks", impl.StuckLinks(netOf("A, ~A, (A*~A); ax 0 1, tensor 0 1 2; 2")), []int64{1})
	if impl.CorrectByParsing(netOf("A, ~A, B, ~B; ax 0 1, ax 2 3; 0 1 2 3")) || !impl.CorrectByParsing(n) {
		t.Fatal("CorrectByParsing")
	}
}

// firing is a net, written out, with a firing sequence and what follows from it.
type firing struct{ net, fired, ready, parts, open string }

const (
	parOfAxiom    = "A, ~A, (A|~A); ax 0 1, par 0 1 2; 2"
	tensorOfAxiom = "A, ~A, (A*~A); ax 0 1, tensor 0 1 2; 2"
	cutOfAxiom    = "A, ~A; cut 1 0, ax 0 1; "
	tensorOfTwo   = "A, ~A, B, ~B, (A*B); ax 0 1, ax 2 3, tensor 0 2 4; 1 3 4"
	cutOfTwo      = "A, ~A, A, ~A; ax 0 1, cut 1 2, ax 2 3; 0 3"
	parOfTwo      = "A, ~A, B, ~B, (A|B); ax 0 1, ax 2 3, par 0 2 4; 1 3 4"
	tensorsFirst  = "(A*B), A, ~A, B, ~B, C, ~C, ((A*B)*C); tensor 1 3 0, ax 5 6, ax 3 4, tensor 0 5 7, ax 1 2; 2 4 7 6"
	threeInARow   = "A, ~A, A, ~A, A, ~A; ax 0 1, ax 2 3, ax 4 5, cut 1 2, cut 3 4; 0 5"
	parBelowCut   = "(A|~A), A, ~A, A, ~A; par 1 4 0, cut 2 3, ax 3 4, ax 1 2; 0"
)

var firings = []firing{
	{"; ; ", "", "", "", ""}, {"A, ~A; ax 0 1; 0 1", "", "0", "-1 -1", ""}, {"A, ~A; ax 0 1; 1 0", "0", "", "0 0", "0 1"}, {"~A, A; ax 1 0; 1 0", "0", "", "0 0", "0 1"},
	{parOfAxiom, "", "0", "-1 -1 -1", ""}, {parOfAxiom, "0", "1", "0 0 -1", "0 1"}, {parOfAxiom, "0 1", "", "0 0 0", "2"}, {tensorOfAxiom, "", "0", "-1 -1 -1", ""}, {tensorOfAxiom, "0", "", "0 0 -1", "0 1"},
	{cutOfAxiom, "", "1", "-1 -1", ""}, {cutOfAxiom, "1", "", "1 1", "0 1"}, {"A, ~A, B, ~B; ax 0 1, ax 2 3; 0 1 2 3", "1", "0", "-1 -1 1 1", "2 3"}, {"A, ~A, B, ~B; ax 0 1, ax 2 3; 3 1 2 0", "1 0", "", "0 0 1 1", "0 1 2 3"},
	{tensorOfTwo, "0", "1", "0 0 -1 -1 -1", "0 1"}, {tensorOfTwo, "1", "0", "-1 -1 1 1 -1", "2 3"}, {tensorOfTwo, "1 0", "2", "0 0 1 1 -1", "0 1 2 3"}, {tensorOfTwo, "0 1 2", "", "0 0 0 0 0", "1 3 4"}, {tensorOfTwo, "1 0 2", "", "0 0 0 0 0", "1 3 4"},
	{cutOfTwo, "2", "0", "-1 -1 2 2", "2 3"}, {cutOfTwo, "2 0", "1", "0 0 2 2", "0 1 2 3"}, {cutOfTwo, "2 0 1", "", "0 0 0 0", "0 3"}, {parOfTwo, "0 1", "", "0 0 1 1 -1", "0 1 2 3"}, {parOfTwo, "1", "0", "-1 -1 1 1 -1", "2 3"},
	// The tensors have the smallest numbers of their parts.
	{tensorsFirst, "", "1 2 4", "-1 -1 -1 -1 -1 -1 -1 -1", ""}, {tensorsFirst, "4", "1 2", "-1 4 4 -1 -1 -1 -1 -1", "1 2"}, {tensorsFirst, "4 2", "0 1", "-1 4 4 2 2 -1 -1 -1", "1 2 3 4"},
	{tensorsFirst, "4 2 0", "1", "0 0 0 0 0 -1 -1 -1", "0 2 4"}, {tensorsFirst, "4 2 0 1", "3", "0 0 0 0 0 1 1 -1", "0 2 4 5 6"}, {tensorsFirst, "4 2 0 1 3", "", "0 0 0 0 0 0 0 0", "2 4 6 7"},
	{tensorsFirst, "1 2 4", "0", "-1 4 4 2 2 1 1 -1", "1 2 3 4 5 6"}, {tensorsFirst, "1 4 2 0", "3", "0 0 0 0 0 1 1 -1", "0 2 4 5 6"}, {tensorsFirst, "1 4", "2", "-1 4 4 -1 -1 1 1 -1", "1 2 5 6"},
	// A part with a smaller number is united into one that was made earlier.
	{threeInARow, "2 1", "0 4", "-1 -1 1 1 2 2", "2 3 4 5"}, {threeInARow, "2 1 4", "0", "-1 -1 1 1 1 1", "2 5"}, {threeInARow, "2 1 4 0", "3", "0 0 1 1 1 1", "0 1 2 5"}, {threeInARow, "2 1 4 0 3", "", "0 0 0 0 0 0", "0 5"},
	{threeInARow, "2 1 0", "3 4", "0 0 1 1 2 2", "0 1 2 3 4 5"}, {threeInARow, "0 1 3 2", "4", "0 0 0 0 2 2", "0 3 4 5"}, {threeInARow, "1 2 0 4", "3", "0 0 1 1 1 1", "0 1 2 5"}, {threeInARow, "0 2", "1", "0 0 -1 -1 2 2", "0 1 4 5"},
	// A cut or a par that has the smallest number of its part.
	{parBelowCut, "2 3", "1", "-1 3 3 2 2", "1 2 3 4"}, {parBelowCut, "3 2 1", "0", "-1 1 1 1 1", "1 4"}, {parBelowCut, "3 2 1 0", "", "0 0 0 0 0", "0"}, {parBelowCut, "3", "2", "-1 3 3 -1 -1", "1 2"},
	{"(A|~A), A, ~A; par 1 2 0, ax 2 1; 0", "1", "0", "-1 1 1", "1 2"}, {"(A|~A), A, ~A; par 1 2 0, ax 2 1; 0", "1 0", "", "0 0 0", "0"},
	// Two tensors between the same axioms: only one of them can be fired.
	{"A, ~A, B, ~B, (A*B), (~A*~B); ax 0 1, ax 2 3, tensor 0 2 4, tensor 1 3 5; 4 5", "0 1", "2 3", "0 0 1 1 -1 -1", "0 1 2 3"}, {"A, ~A, B, ~B, (A*B), (~A*~B); ax 0 1, ax 2 3, tensor 0 2 4, tensor 1 3 5; 4 5", "0 1 2", "", "0 0 0 0 0 -1", "1 3 4"},
	{"A, ~A, B, ~B, (A*B), (~A*~B); ax 0 1, ax 2 3, tensor 0 2 4, tensor 1 3 5; 4 5", "1 0 3", "", "0 0 0 0 -1 0", "0 2 5"}, {joinedTwice, "1 0", "2", "0 0 1 1 -1 -1", "0 1 2 3"}, {joinedTwice, "1 0 2", "3", "0 0 0 0 0 -1", "1 3 4"}, {joinedTwice, "1 0 2 3", "", "0 0 0 0 0 0", "4 5"},
}

func TestFiringsWrittenOut(t *testing.T) {
	for _, c := range firings {
		n, fired := netOf(c.net), numbersOf(c.fired)
		if !checkSequence(t, n, fired) {
			t.Fatal("no firing sequence", c.net, c.fired)
		}
		if ready, ok := impl.ReadyLinks(n, fired); !ok || !slices.Equal(ready, numbersOf(c.ready)) {
			t.Fatalf("ReadyLinks = %v, %v, want %s after %s of %s", ready, ok, c.ready, c.fired, c.net)
		}
		if parts, ok := impl.PartsAfter(n, fired); !ok || !slices.Equal(parts, numbersOf(c.parts)) {
			t.Fatalf("PartsAfter = %v, %v, want %s after %s of %s", parts, ok, c.parts, c.fired, c.net)
		}
		if open, ok := impl.OpenWires(n, fired); !ok || !slices.Equal(open, numbersOf(c.open)) {
			t.Fatalf("OpenWires = %v, %v, want %s after %s of %s", open, ok, c.open, c.fired, c.net)
		}
		for link := range int64(len(n.Links)) {
			more := append(slices.Clone(fired), link)
			if impl.IsFiringSequence(n, more) != slices.Contains(numbersOf(c.ready), link) {
				t.Fatalf("IsFiringSequence(%v) of %s", more, c.net)
			}
		}
	}
}

// Lists that are no firing sequences, each for one reason.
func TestNoFiringSequencesWrittenOut(t *testing.T) {
	for net, lists := range map[string][]string{
		"; ; ":        {"0", "-1", "0 0", "1"},
		parOfAxiom:    {"1", "1 0", "0 0", "0 1 1", "0 1 0", "0 0 1", "0 2", "0 1 2", "-1", "0 -1", "2", "2 0 1"},
		tensorOfAxiom: {"1", "1 0", "0 1", "0 0", "0 1 1", "2"},
		cutOfAxiom:    {"0", "0 1", "1 0", "1 1"},
		tensorOfTwo:   {"2", "0 2", "1 2", "2 0 1", "0 2 1", "0 1 2 2", "0 1 2 0", "0 1 1", "0 0 1 2", "3", "0 1 2 3", "0 1 3"},
		cutOfTwo:      {"1", "0 1", "2 1", "0 1 2", "0 2 1 1", "0 2 1 2", "0 2 2", "3"},
		parOfTwo:      {"2", "0 2", "1 2", "0 1 2", "1 0 2"},
		tensorsFirst:  {"0", "4 0", "2 0", "4 1 0", "1 2 4 3", "1 2 3 4 0", "3", "4 2 0 0", "4 2 0 3", "4 2 0 1 0", "4 2 0 1 3 3"},
		threeInARow:   {"2 1 3", "0 2 3", "0 2 4", "0 1 3 4", "0 1 3 3", "2 1 0 3 4 5"},
		parBelowCut:   {"2 3 0", "0", "1", "3 0", "3 1", "3 2 0 1", "2 3 1 0 0"},
		joinedTwice:   {"0 1 3", "0 1 3 2", "0 3", "0 1 2 3 3", "0 1 2 2 3"},
		"A, ~A, B, ~B, (A*B), (~A*~B); ax 0 1, ax 2 3, tensor 0 2 4, tensor 1 3 5; 4 5": {"0 1 2 3", "0 1 3 2", "1 0 3 2", "0 2", "1 3"},
		"A, ~A; ax 0 1; 0 1": {"0 0", "1", "-1", "0 1"},
	} {
		n := netOf(net)
		if !impl.ValidNet(n) || !impl.IsFiringSequence(n, nil) || !impl.IsFiringSequence(n, []int64{}) {
			t.Fatal("no valid net", net)
		}
		for _, list := range lists {
			checkNotFired(t, n, numbersOf(list))
			if checkSequence(t, n, numbersOf(list)) {
				t.Fatal("the tests take it for a firing sequence", net, list)
			}
		}
	}
}

// All firing sequences of small nets, the empty one and those that are stuck included, and all lists that continue them by one link that
// is not ready.
func TestAllFiringSequencesOfSmallNets(t *testing.T) {
	found, stuck, whole := 0, 0, 0
	check := func(v view) {
		found++
		checkFired(t, v)
		ready := v.ready()
		for link := int64(-1); link <= int64(len(v.net.Links)); link++ {
			if !slices.Contains(ready, link) {
				checkNotFired(t, v.net, append(slices.Clone(v.fired), link))
			}
		}
		if len(ready) == 0 && v.isWhole() {
			whole++
		} else if len(ready) == 0 {
			stuck++
		}
	}
	for _, n := range parsedNets() {
		if len(n.Links) <= 6 {
			eachFiring(viewOf(n), check)
		}
	}
	visited := 0
	for _, forms := range [][]tree{{leaf(1)}, {leaf(1), leaf(1)}, {leaf(1), leaf(2)}} {
		joinedInAllWays(axioms(forms...), func(n impl.Net) {
			if visited++; visited%4 == 0 {
				eachFiring(viewOf(n), check)
				eachFiring(viewOf(turned(n)), check)
			}
		})
	}
	if found < 20000 || stuck < 1000 || whole < 500 {
		t.Fatal("too few sequences", found, stuck, whole)
	}
}

// Every list of numbers up to one longer than the links of some nets.
func TestAllListsOfLinks(t *testing.T) {
	found := map[bool]int{}
	for _, net := range []string{"; ; ", "A, ~A; ax 0 1; 0 1", parOfAxiom, tensorOfAxiom, cutOfAxiom, tensorOfTwo, cutOfTwo, parOfTwo, joinedTwice, cycleFirst, "A, ~A, B, ~B, (A*B), (~A*~B); ax 0 1, ax 2 3, tensor 0 2 4, tensor 1 3 5; 4 5"} {
		n := netOf(net)
		var extend func(fired []int64)
		extend = func(fired []int64) {
			found[checkSequence(t, n, fired)]++
			if len(fired) > len(n.Links) {
				return
			}
			for link := int64(-1); link <= int64(len(n.Links)); link++ {
				extend(append(slices.Clone(fired), link))
			}
		}
		extend(nil)
	}
	if found[true] < 50 || found[false] < 20000 {
		t.Fatal("too few lists", found)
	}
}

// A link that no net has, or one that stands in the list already, makes it no firing sequence, at any place. A list that is longer than
// the links is none either.
func TestFiringSequencesWithOneLinkMore(t *testing.T) {
	seed, found := uint64(181), map[string]int{}
	for at, n := range append(parsedNets(), correctNets()[:100]...) {
		if at%3 > 0 && len(n.Links) > 8 {
			continue
		}
		fired := firedSomehow(t, n, &seed)
		place := choose(&seed, uint64(len(fired)+1))
		for _, odd := range []int64{-1, int64(len(n.Links)), -1 - int64(len(n.Links)), math.MinInt64, math.MaxInt64, oddLinks[choose(&seed, uint64(len(oddLinks)))]} {
			for _, at := range []int{0, place, len(fired)} {
				checkNotFired(t, n, slices.Insert(slices.Clone(fired), at, odd))
				found["odd"]++
			}
		}
		for at, link := range fired {
			checkNotFired(t, n, append(slices.Clone(fired), link))
			checkNotFired(t, n, slices.Insert(slices.Clone(fired), at, link))
			checkNotFired(t, n, slices.Insert(slices.Clone(fired), place, link))
			found["twice"]++
		}
		if len(fired) == len(n.Links) {
			for _, more := range [][]int64{{0}, {int64(len(n.Links)) - 1}, fired, inOrder(len(n.Links) + 1)} {
				if len(more) > 0 {
					checkNotFired(t, n, append(slices.Clone(fired), more...))
					found["longer"]++
				}
			}
		}
	}
	if found["odd"] < 4000 || found["twice"] < 2000 || found["longer"] < 400 {
		t.Fatal("too few lists", found)
	}
}

// A firing sequence in which two links are exchanged, one is left out, or the order is the opposite one.
func TestChangedFiringSequences(t *testing.T) {
	seed, found := uint64(182), map[bool]int{}
	for at, n := range append(parsedNets(), correctNets()[:100]...) {
		if len(n.Links) > 16 && at%10 > 0 || len(n.Links) == 0 {
			continue
		}
		fired := firedSomehow(t, n, &seed)
		for range 4 {
			other := slices.Clone(fired)
			i, j := choose(&seed, uint64(len(fired))), choose(&seed, uint64(len(fired)))
			other[i], other[j] = other[j], other[i]
			found[checkSequence(t, n, other)]++
			found[checkSequence(t, n, slices.Delete(slices.Clone(fired), i, i+1))]++
		}
		slices.Reverse(fired)
		found[checkSequence(t, n, fired)]++
	}
	if found[true] < 1000 || found[false] < 1000 {
		t.Fatal("too few lists", found)
	}
}

// The ready links, parts and open wires at every step of some firing sequences of nets of all kinds.
func TestStepsOfFiringSequences(t *testing.T) {
	seed, found, longest := uint64(183), 0, 0
	for at, n := range append(parsedNets(), correctNets()[:100]...) {
		fired := firedSomehow(t, n, &seed)
		v := viewOf(n)
		for k, link := range fired {
			if len(n.Links) <= 12 || (at+k)%7 == 0 {
				checkFired(t, v)
				found++
			}
			v = v.after(link)
		}
		checkFired(t, v)
		longest = max(longest, len(fired))
	}
	if found < 3000 || longest < 47 {
		t.Fatal("too few steps", found, longest)
	}
}

// Each step of a firing sequence changes the parts as its link says: an axiom makes a part with its number, a par changes no part but for
// its number, a tensor or a cut unites the parts of its inputs; and the smallest number stays.
func TestPartsChangeByOneLink(t *testing.T) {
	seed, found := uint64(184), map[int64]int{}
	for _, n := range append(parsedNets(), correctNets()[:100]...) {
		fired := firedSomehow(t, n, &seed)
		parts, _ := impl.PartsAfter(n, nil)
		for k, link := range fired {
			next, ok := impl.PartsAfter(n, fired[:k+1])
			l := n.Links[link]
			number, joined := link, []int64{}
			for _, wire := range wiresIn(l, 'i') {
				number = min(number, parts[wire])
				joined = append(joined, parts[wire])
			}
			for wire, part := range parts {
				if slices.Contains(joined, part) || slices.Contains(wiresIn(l, 'o'), int64(wire)) {
					part = number
				}
				if !ok || next[wire] != part {
					t.Fatalf("PartsAfter(%v) = %v after %v of%s", fired[:k+1], next, parts, describeNet(n))
				}
			}
			if parts = next; number < slices.Min(append(joined, math.MaxInt64)) {
				found[l.Kind]++
			}
		}
	}
	if found[ax] < 1000 || found[cut] < 50 || found[tensor] < 100 || found[par] < 30 {
		t.Fatal("too few links that give their part its number", found)
	}
}

// A wire without consumer stays open as soon as it is reached; after all links the open wires are the conclusions. Every other wire is open
// between its producer and its consumer.
func TestOpenWiresOfNets(t *testing.T) {
	seed, found, closed := uint64(185), 0, 0
	for _, n := range append(parsedNets(), correctNets()[:100]...) {
		fired := firedSomehow(t, n, &seed)
		for k := range len(fired) + 1 {
			if k < len(fired) && len(fired) > 12 && choose(&seed, 5) > 0 {
				continue
			}
			open, ok := impl.OpenWires(n, fired[:k])
			var want []int64
			for wire := range int64(len(n.Wires)) {
				from, to := slices.Index(fired[:k], impl.SourceOf(n, wire)), slices.Index(fired[:k], impl.TargetOf(n, wire))
				if from >= 0 && to < 0 {
					want = append(want, wire)
				} else if to >= 0 {
					closed++
				}
			}
			if found++; !ok || !slices.Equal(open, want) {
				t.Fatalf("OpenWires(%v) = %v, %v, want %v of%s", fired[:k], open, ok, want, describeNet(n))
			}
		}
		if open, _ := impl.OpenWires(n, fired); len(fired) == len(n.Links) && !slices.Equal(open, slices.Sorted(slices.Values(n.Concl))) {
			t.Fatalf("OpenWires = %v after all links, of%s", open, describeNet(n))
		}
	}
	if found < 4000 || closed < 5000 {
		t.Fatal("too few steps", found, closed)
	}
}

// Exactly the ready links continue a firing sequence; an axiom that has not been fired is one of them.
func TestReadyLinksOfNets(t *testing.T) {
	seed, found := uint64(186), map[int64]int{}
	for at, n := range append(parsedNets(), correctNets()[:100]...) {
		fired := firedSomehow(t, n, &seed)
		k := choose(&seed, uint64(len(fired)+1))
		if at%2 == 0 {
			k = len(fired) / 2
		}
		ready, ok := impl.ReadyLinks(n, fired[:k])
		if !ok || !slices.IsSorted(ready) || len(slices.Compact(slices.Clone(ready))) != len(ready) {
			t.Fatalf("ReadyLinks(%v) = %v, %v of%s", fired[:k], ready, ok, describeNet(n))
		}
		for link := range int64(len(n.Links)) {
			isReady := slices.Contains(ready, link)
			if impl.IsFiringSequence(n, append(slices.Clone(fired[:k]), link)) != isReady || n.Links[link].Kind == ax && isReady == slices.Contains(fired[:k], link) {
				t.Fatalf("ReadyLinks(%v) = %v with %d, of%s", fired[:k], ready, link, describeNet(n))
			}
			if isReady {
				found[n.Links[link].Kind]++
			}
		}
	}
	if found[ax] < 1000 || found[cut] < 50 || found[tensor] < 100 || found[par] < 50 {
		t.Fatal("too few ready links", found)
	}
}

// A net that is not valid has no firing sequence and no order, whatever the reason is.
func TestParsingOfBrokenNets(t *testing.T) {
	for _, n := range brokenNets() {
		checkNoParsing(t, n)
	}
	found := map[bool]int{}
	for _, n := range append(smallNets(6), netOf(cycleFirst), netOf(joinedTwice), netOf(tensorsFirst)) {
		changedNets(n, func(changed impl.Net) {
			checkParsing(t, changed)
			found[isNet(changed)]++
		})
	}
	if found[true] < 100 || found[false] < 500 {
		t.Fatal("too few nets", found)
	}
}
