package tests

import (
	"slices"
	"testing"

	"loop.example/g00872/impl"
)

// order is a net, written out, with its FiringOrder, its LastFiringOrder, its StuckLinks, and whether it is correct.
type order struct {
	net, first, last, stuck string
	correct                 bool
}

var orders = []order{
	{"; ; ", "", "", "", false}, {"A, ~A; ax 0 1; 0 1", "0", "0", "", true}, {"(A*B), (~A|~B); ax 1 0; 1 0", "0", "0", "", true}, {parOfAxiom, "0 1", "0 1", "", true}, {tensorOfAxiom, "0", "0", "1", false}, {cutOfAxiom, "1", "1", "0", false},
	{"A, ~A, B, ~B; ax 0 1, ax 2 3; 0 1 2 3", "0 1", "1 0", "", false}, {tensorOfTwo, "0 1 2", "1 0 2", "", true}, {cutOfTwo, "0 2 1", "2 0 1", "", true}, {parOfTwo, "0 1", "1 0", "2", false}, {joinedTwice, "0 1 2 3", "1 0 2 3", "", true},
	// A link becomes ready that is smaller than those fired before, or greater.
	{"(A|~A), A, ~A; par 1 2 0, ax 2 1; 0", "1 0", "1 0", "", true}, {"(A*B), A, ~A, B, ~B; tensor 1 3 0, ax 1 2, ax 3 4; 0 2 4", "1 2 0", "2 1 0", "", true}, {tensorsFirst, "1 2 4 0 3", "4 2 1 0 3", "", true}, {parBelowCut, "2 3 1 0", "3 2 1 0", "", true},
	{"(A*B), A, ~A, B, ~B, C, ~C; tensor 1 3 0, ax 1 2, ax 3 4, ax 5 6; 0 2 4 5 6", "1 2 0 3", "3 2 1 0", "", false}, {"(A|~A), A, ~A, B, ~B; par 1 2 0, ax 1 2, ax 3 4; 0 3 4", "1 0 2", "2 1 0", "", false},
	{"A, ~A, B, ~B, (B|~B), C, ~C; ax 0 1, ax 2 3, ax 5 6, par 2 3 4; 0 1 4 5 6", "0 1 2 3", "2 1 3 0", "", false}, {"A, ~A, B, ~B, (B|~B); ax 0 1, ax 2 3, par 2 3 4; 0 1 4", "0 1 2", "1 2 0", "", false},
	{"A, ~A, B, ~B, C, ~C, (B*C); ax 0 1, ax 2 3, ax 4 5, tensor 2 4 6; 0 1 3 5 6", "0 1 2 3", "2 1 3 0", "", false}, {threeInARow, "0 1 2 3 4", "2 1 4 0 3", "", true},
	{"A, ~A, B, ~B, C, ~C, (A*B), (~A|~B), (C|~C), ((~A|~B)*(C|~C)); ax 0 1, par 1 3 7, ax 2 3, par 4 5 8, tensor 0 2 6, tensor 7 8 9, ax 4 5; 6 9", "0 2 4 1 6 3 5", "6 3 2 0 4 1 5", "", true},
	// Both orders are stuck at the same links.
	{cycleFirst, "0 1", "1 0", "2 3", false}, {cycleSecond, "0 1", "1 0", "2 3", false}, {"A, ~A, B, ~B, (A*B), (~A|~B); ax 0 1, ax 2 3, tensor 0 2 4, par 1 3 5, cut 4 5; ", "0 1 2 3", "1 0 2 3", "4", false},
	{"A, ~A, (A|~A), (~A*A), A, ~A; ax 0 1, par 0 1 2, ax 4 5, tensor 5 4 3, cut 2 3; ", "0 1 2", "2 0 1", "3 4", false}, {"A, ~A, B, ~B, (A|B), (~A|~B); ax 0 1, ax 2 3, par 0 2 4, par 1 3 5; 4 5", "0 1", "1 0", "2 3", false},
	// They are stuck at different links, as many of them or more.
	{"A, ~A, A, ~A; ax 0 1, ax 2 3, cut 1 2, cut 3 0; ", "0 1 2", "1 0 3", "3", false}, {"A, ~A, B, ~B, (A*B), (~A*~B); ax 0 1, ax 2 3, tensor 0 2 4, tensor 1 3 5; 4 5", "0 1 2", "1 0 3", "3", false},
	{"A, ~A, A, ~A, A, ~A; ax 0 1, ax 2 3, ax 4 5, cut 1 2, cut 3 4, cut 5 0; ", "0 1 2 3 4", "2 1 4 0 5", "5", false}, {"A, ~A, A, ~A; cut 1 2, cut 3 0, ax 0 1, ax 2 3; ", "2 3 0", "3 2 1", "1", false},
	{"A, ~A, B, ~B, C, ~C, (A*B), (~A*~B), ((~A*~B)*C); ax 0 1, ax 2 3, ax 4 5, tensor 0 2 6, tensor 1 3 7, tensor 7 4 8; 6 8 5", "0 1 2 3", "2 1 0 4 5", "4 5", false},
	{"A, ~A, B, ~B, C, ~C, (A*B), (~A*~B), ((A*B)*C); ax 0 1, ax 2 3, ax 4 5, tensor 0 2 6, tensor 1 3 7, tensor 6 4 8; 7 8 5", "0 1 2 3 5", "2 1 0 4", "4", false},
	{"A, ~A, B, ~B, C, ~C, (A*B), (~A*~B), ((~A*~B)|C); ax 0 1, ax 2 3, ax 4 5, tensor 0 2 6, tensor 1 3 7, par 7 4 8; 6 8 5", "0 1 2 3", "2 1 0 4", "4 5", false},
	// All links are fired, but there are two parts or three.
	{"A, ~A, (A|~A), B, ~B, (B|~B); ax 0 1, par 0 1 2, ax 3 4, par 3 4 5; 2 5", "0 1 2 3", "2 3 0 1", "", false}, {"A, ~A, A, ~A, B, ~B; ax 0 1, ax 2 3, cut 1 2, ax 4 5; 0 3 4 5", "0 1 2 3", "3 1 0 2", "", false},
	{"A, ~A, A, ~A, A, ~A; ax 0 1, ax 2 5, ax 4 3; 0 1 2 3 4 5", "0 1 2", "2 1 0", "", false}, {"A, ~A, B, ~B, (A*B), C, ~C; ax 5 6, ax 0 1, ax 2 3, tensor 0 2 4; 1 3 4 5 6", "0 1 2 3", "2 1 3 0", "", false},
}

func TestOrdersWrittenOut(t *testing.T) {
	for _, c := range orders {
		n := netOf(c.net)
		if checkParsing(t, n) != c.correct || impl.CorrectByParsing(n) != c.correct {
			t.Fatal("CorrectByParsing", c.net)
		}
		wantList(t, "FiringOrder of "+c.net, impl.FiringOrder(n), numbersOf(c.first))
		wantList(t, "LastFiringOrder of "+c.net, impl.LastFiringOrder(n), numbersOf(c.last))
		wantList(t, "StuckLinks of "+c.net, impl.StuckLinks(n), numbersOf(c.stuck))
	}
}

// stuckAfter returns the links that are not in a list.
func stuckAfter(n impl.Net, fired []int64) []int64 {
	return slices.DeleteFunc(inOrder(len(n.Links)), func(link int64) bool { return slices.Contains(fired, link) })
}

// Each order fires the smallest or the greatest of the ready links at every step, and ends only where none is ready. Firing often makes a
// link ready that is smaller or greater than those fired before, and the orders are often stuck at different links.
func TestOrdersOfNets(t *testing.T) {
	found := map[string]int{}
	for at, n := range append(parsedNets(), correctNets()[:100]...) {
		first, last := impl.FiringOrder(n), impl.LastFiringOrder(n)
		for name, fired := range map[string][]int64{"first": first, "last": last} {
			pick := map[string]func([]int64) int64{"first": slices.Min[[]int64], "last": slices.Max[[]int64]}[name]
			for k, link := range fired {
				if len(n.Links) > 12 && (at+k)%5 > 0 {
					continue
				}
				if ready, ok := impl.ReadyLinks(n, fired[:k]); !ok || len(ready) == 0 || pick(ready) != link {
					t.Fatalf("the %s order is %v, but after %v the links %v are ready, of%s", name, fired, fired[:k], ready, describeNet(n))
				}
			}
			if ready, ok := impl.ReadyLinks(n, fired); !ok || len(ready) > 0 {
				t.Fatalf("the %s order is %v, but the links %v are ready after it, of%s", name, fired, ready, describeNet(n))
			}
		}
		stuck := impl.StuckLinks(n)
		if !slices.Equal(stuck, stuckAfter(n, first)) {
			t.Fatalf("StuckLinks = %v after %v of%s", stuck, first, describeNet(n))
		}
		descending := slices.Clone(last)
		slices.Reverse(descending)
		for name, holds := range map[string]bool{"smaller": !slices.IsSorted(first), "greater": !slices.IsSorted(descending), "none": len(stuck) == 0, "different": !slices.Equal(stuck, stuckAfter(n, last)), "more": len(first) != len(last)} {
			if holds {
				found[name]++
			}
		}
	}
	for name, least := range map[string]int{"smaller": 100, "greater": 100, "none": 100, "different": 20, "more": 3} {
		if found[name] < least {
			t.Fatal("too few nets", found)
		}
	}
}

// Of all firing sequences that cannot be continued, FiringOrder is the first one as lists are ordered, and LastFiringOrder the last one.
func TestOrdersAmongAllFiringSequences(t *testing.T) {
	found, visited := 0, 0
	check := func(n impl.Net) {
		var ends [][]int64
		eachFiring(viewOf(n), func(v view) {
			if len(v.ready()) == 0 {
				ends = append(ends, v.fired)
			}
		})
		first, last := slices.MinFunc(ends, slices.Compare), slices.MaxFunc(ends, slices.Compare)
		if got, gotLast := impl.FiringOrder(n), impl.LastFiringOrder(n); !slices.Equal(got, first) || !slices.Equal(gotLast, last) {
			t.Fatalf("FiringOrder, LastFiringOrder = %v, want %v of%s", describeFired(got, gotLast), describeFired(first, last), describeNet(n))
		}
		wantList(t, "StuckLinks", impl.StuckLinks(n), stuckAfter(n, first))
		if len(ends) > 1 {
			found++
		}
	}
	seed := uint64(191)
	for _, n := range parsedNets() {
		if len(n.Links) <= 6 {
			check(n)
		}
	}
	for _, forms := range [][]tree{{leaf(1), leaf(1)}, {leaf(1), leaf(2)}} {
		joinedInAllWays(axioms(forms...), func(n impl.Net) {
			if visited++; visited%7 == 0 {
				check(mixed(n, &seed))
			}
		})
	}
	if found < 400 {
		t.Fatal("too few nets", found)
	}
}

// With the links in the opposite order, the greatest link becomes the smallest one. The numbers of the wires and the order of the
// conclusions change no order.
func TestOrdersOfRenumberedNets(t *testing.T) {
	seed := uint64(192)
	for _, n := range append(parsedNets(), correctNets()...) {
		other := turned(n)
		turn := func(list []int64) []int64 {
			var out []int64
			for _, link := range list {
				out = append(out, int64(len(n.Links))-1-link)
			}
			return out
		}
		if first, last := impl.FiringOrder(other), impl.LastFiringOrder(other); !slices.Equal(turn(first), impl.LastFiringOrder(n)) || !slices.Equal(turn(last), impl.FiringOrder(n)) {
			t.Fatalf("FiringOrder, LastFiringOrder = %s of the opposite order, of%s", describeFired(first, last), describeNet(n))
		}
		same, _ := wantRenumbered(n, somePlaces(len(n.Wires), &seed), inOrder(len(n.Links)))
		same.Concl = moved(same.Concl, somePlaces(len(n.Concl), &seed))
		if !slices.Equal(impl.FiringOrder(same), impl.FiringOrder(n)) || !slices.Equal(impl.LastFiringOrder(same), impl.LastFiringOrder(n)) || !slices.Equal(impl.StuckLinks(same), impl.StuckLinks(n)) {
			t.Fatalf("the orders change with the wires of%s", describeNet(n))
		}
	}
}

// Chains and rings of cuts, up to the limits: of a ring one cut is stuck, and which one depends on the order.
func TestOrdersOfChains(t *testing.T) {
	for count := 1; count <= 24; count++ {
		chain := cutChain(count)
		if !isNet(chain) || !checkParsing(t, chain) || !checkParsing(t, turned(chain)) || len(impl.StuckLinks(chain)) > 0 {
			t.Fatal("a chain is not correct", count)
		}
		wantList(t, "FiringOrder", impl.FiringOrder(chain), inOrder(2*count-1))
		if count == 1 {
			continue
		}
		ring := cutRing(count)
		if !isNet(ring) || checkParsing(t, ring) || checkParsing(t, turned(ring)) {
			t.Fatal("a ring is correct", count)
		}
		wantList(t, "FiringOrder", impl.FiringOrder(ring), inOrder(2*count-1))
		wantList(t, "StuckLinks", impl.StuckLinks(ring), []int64{int64(2*count - 1)})
		wantList(t, "the links that are not in LastFiringOrder", stuckAfter(ring, impl.LastFiringOrder(ring)), []int64{int64(count)})
	}
}
