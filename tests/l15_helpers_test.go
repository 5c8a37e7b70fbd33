package tests

import (
	"math"
	"slices"
	"testing"

	"loop.example/g00872/impl"
)

// bitsOf returns some links of a net as bits.
func bitsOf(links []int64) uint64 {
	set := uint64(0)
	for _, link := range links {
		set |= 1 << link
	}
	return set
}

// listOf returns links that are given as bits, strictly increasing.
func listOf(set uint64) []int64 {
	return slices.DeleteFunc(inOrder(64), func(link int64) bool { return set>>link&1 == 0 })
}

// wantClosed is IsClosedSet as the tests see it.
func wantClosed(n impl.Net, links []int64) bool {
	if !isNet(n) || len(links) == 0 {
		return false
	}
	for at, link := range links {
		if link < 0 || link >= int64(len(n.Links)) || at > 0 && links[at-1] >= link {
			return false
		}
		for _, wire := range wiresIn(n.Links[link], 'i') {
			if !slices.Contains(links, wantEnd(n, wire, 'o')) {
				return false
			}
		}
	}
	return true
}

// wantBorder is BorderOf of a closed set as the tests see it.
func wantBorder(n impl.Net, links []int64) []int64 {
	isOther := func(wire int64) bool {
		return !slices.Contains(links, wantEnd(n, wire, 'o')) || slices.Contains(links, wantEnd(n, wire, 'i'))
	}
	return slices.DeleteFunc(inOrder(len(n.Wires)), isOther)
}

// wantSub is SubNet as the tests see it.
func wantSub(n impl.Net, links []int64) (impl.Net, bool) {
	if !wantClosed(n, links) {
		return impl.Net{}, false
	}
	return wantKept(n, bitsOf(links), wantBorder(n, links)), true
}

// checkSet compares the functions of a net and a list of links with the expectation, which includes whether the list is a subnet set. It
// reports whether it is a closed set.
func checkSet(t *testing.T, n impl.Net, links []int64, isSubnet bool) bool {
	t.Helper()
	want, closed := wantSub(n, links)
	if !closed {
		checkNoSet(t, n, links)
		return false
	}
	if !impl.IsClosedSet(n, links) {
		t.Fatalf("IsClosedSet(%v) = false of%s", links, describeNet(n))
	}
	if got, ok := impl.SubNet(n, links); !ok || !sameNet(got, want) || !impl.ValidNet(got) || !isNet(got) {
		t.Fatalf("SubNet(%v) = %v with%s\ninstead of%s\nof%s", links, ok, describeNet(got), describeNet(want), describeNet(n))
	}
	if got, want := impl.BorderOf(n, links), wantBorder(n, links); !slices.Equal(got, want) {
		t.Fatalf("BorderOf(%v) = %v, want %v of%s", links, got, want, describeNet(n))
	}
	if got := impl.IsSubnetSet(n, links); got != isSubnet {
		t.Fatalf("IsSubnetSet(%v) = %v of%s", links, got, describeNet(n))
	}
	return true
}

// checkNoSet fails if a function has a result for what is no closed set.
func checkNoSet(t *testing.T, n impl.Net, links []int64) {
	t.Helper()
	got, ok := impl.SubNet(n, links)
	border := impl.BorderOf(n, links)
	if ok || !sameNet(got, impl.Net{}) || len(border) > 0 || impl.IsClosedSet(n, links) || impl.IsSubnetSet(n, links) {
		t.Fatalf("a result for %v, which is no closed set: %v with%s\nor the border %v of%s", shortened(links), ok, describeNet(got), border, describeNet(n))
	}
}

// isInBorder reports whether links of a valid net, as bits, have a wire in their border.
func isInBorder(n impl.Net, set uint64, wire int64) bool {
	consumer := wantEnd(n, wire, 'i')
	return set>>wantEnd(n, wire, 'o')&1 == 1 && (consumer < 0 || set>>consumer&1 == 0)
}

// proofSets returns the sets of links of a valid net, as bits, that are subnet sets as the tests see them: the links of the proofs that can
// be made with its links. An axiom is one, a par makes one of another with both of its inputs, and a tensor or a cut one of two others,
// with one of its inputs each.
func proofSets(n impl.Net) map[uint64]bool {
	found := map[uint64]bool{}
	var list []uint64
	add := func(set uint64) {
		if !found[set] {
			found[set], list = true, append(list, set)
		}
	}
	above := func(set uint64, wire int64) bool { return set>>wantEnd(n, wire, 'o')&1 == 1 }
	for _, link := range wantLinksOf(n, ax) {
		add(1 << link)
	}
	for at := 0; at < len(list); at++ {
		first := list[at]
		for k, l := range n.Links {
			switch {
			case l.Kind == ax || first>>k&1 == 1:
			case l.Kind == par && above(first, l.A) && above(first, l.B):
				add(first | 1<<k)
			case l.Kind != par && above(first, l.A) != above(first, l.B):
				for _, second := range list[:at] {
					apart := first&second == 0 && second>>k&1 == 0
					if apart && above(first, l.A) == above(second, l.B) && above(first, l.B) == above(second, l.A) {
						add(first | second | 1<<k)
					}
				}
			}
		}
	}
	return found
}

// checkAllSets compares the functions of a net and a set of its links with the expectation, for all sets of at most ten links.
func checkAllSets(t *testing.T, n impl.Net) (closed, subnets int) {
	t.Helper()
	sets := proofSets(n)
	for set := range uint64(1) << len(n.Links) {
		if checkSet(t, n, listOf(set), sets[set]) {
			closed++
		} else if sets[set] {
			t.Fatalf("the tests take %v for a subnet set, of%s", listOf(set), describeNet(n))
		}
	}
	return closed, len(sets)
}

// wantSwitchingEmpire is SwitchingEmpire of a correct net as the tests see it.
func wantSwitchingEmpire(n impl.Net, wire int64) []int64 {
	all, pars, out := allArcs(n), len(wantLinksOf(n, par)), inOrder(len(n.Links))
	for index := range wantCount(n) {
		arcs := slices.DeleteFunc(chosenArcs(n, all, switchingAt(index, pars)), func(arc impl.Arc) bool { return arc.Wire == wire })
		reached := reachedFrom(arcs, wantEnd(n, wire, 'o'))
		out = slices.DeleteFunc(out, func(link int64) bool { return !slices.Contains(reached, link) })
	}
	return out
}

// realm is what the functions of chapter 15 return for a wire of a net.
type realm struct {
	count           int64
	kingdom, empire []int64
}

// wantRealm returns the realm of a wire of a net with these subnet sets.
func wantRealm(n impl.Net, sets map[uint64]bool, wire int64) realm {
	var out realm
	kingdom, empire := uint64(math.MaxUint64), uint64(0)
	for set := range sets {
		if isInBorder(n, set, wire) {
			out.count++
			kingdom &= set
			empire |= set
		}
	}
	out.kingdom, out.empire = listOf(kingdom), listOf(empire)
	return out
}

// checkRealm compares the functions of a wire of a correct net of at most ten links with the expectation, which follows from its subnet
// sets. The kingdom and the empire must be subnet sets with the wire in their border, and every other one lie between them.
func checkRealm(t *testing.T, n impl.Net, sets map[uint64]bool, wire int64) realm {
	t.Helper()
	want := wantRealm(n, sets, wire)
	if got := impl.SubnetCount(n, wire); got != want.count || got < 1 {
		t.Fatalf("SubnetCount(%d) = %d, want %d of%s", wire, got, want.count, describeNet(n))
	}
	kingdom, kingdomOk := impl.KingdomOf(n, wire)
	empire, empireOk := impl.EmpireOf(n, wire)
	switched, switchedOk := impl.SwitchingEmpire(n, wire)
	if !kingdomOk || !empireOk || !switchedOk || !slices.Equal(kingdom, want.kingdom) || !slices.Equal(empire, want.empire) {
		t.Fatalf("KingdomOf(%d), EmpireOf = %v, %v, %v, %v, want %v of%s", wire, kingdom, kingdomOk, empire, empireOk, want, describeNet(n))
	}
	if !slices.Equal(switched, empire) || !slices.Equal(switched, wantSwitchingEmpire(n, wire)) {
		t.Fatalf("SwitchingEmpire(%d) = %v, but EmpireOf = %v of%s", wire, switched, empire, describeNet(n))
	}
	for _, list := range [][]int64{kingdom, empire} {
		if !sets[bitsOf(list)] || !isInBorder(n, bitsOf(list), wire) || !impl.IsSubnetSet(n, list) || !slices.Contains(impl.BorderOf(n, list), wire) {
			t.Fatalf("%v is no subnet set with the wire %d in its border, of%s", list, wire, describeNet(n))
		}
	}
	for set := range sets {
		if isInBorder(n, set, wire) && (bitsOf(kingdom)&^set != 0 || set&^bitsOf(empire) != 0) {
			t.Fatalf("%v is not between the kingdom %v and the empire %v of %d, of%s", listOf(set), kingdom, empire, wire, describeNet(n))
		}
	}
	for other := range int64(len(n.Wires)) {
		// Of greater nets, some pairs of wires are enough.
		if len(n.Links) > 6 && (other+wire)%4 > 0 {
			continue
		}
		if got := impl.InKingdom(n, other, wire); got != slices.Contains(kingdom, wantEnd(n, other, 'o')) {
			t.Fatalf("InKingdom(%d, %d) = %v of%s", other, wire, got, describeNet(n))
		}
	}
	return want
}

// checkRealms does the same for all wires of a correct net of at most ten links, and for numbers that are no wires.
func checkRealms(t *testing.T, n impl.Net) []realm {
	t.Helper()
	sets := proofSets(n)
	if !sets[1<<len(n.Links)-1] || len(n.Links) > 10 {
		t.Fatalf("the tests do not take the net for a correct one in range:%s", describeNet(n))
	}
	var out []realm
	for wire := range int64(len(n.Wires)) {
		out = append(out, checkRealm(t, n, sets, wire))
	}
	for _, wire := range append([]int64{int64(len(n.Wires)), int64(len(n.Wires)) + 1}, oddNumbers...) {
		checkNoRealm(t, n, wire)
	}
	return out
}

// checkNoRealm fails if a function has a result for a net and a wire of which there is no kingdom.
func checkNoRealm(t *testing.T, n impl.Net, wire int64) {
	t.Helper()
	kingdom, kingdomOk := impl.KingdomOf(n, wire)
	empire, empireOk := impl.EmpireOf(n, wire)
	switched, switchedOk := impl.SwitchingEmpire(n, wire)
	if count := impl.SubnetCount(n, wire); count != -1 || kingdomOk || empireOk || switchedOk || len(kingdom) > 0 || len(empire) > 0 || len(switched) > 0 {
		t.Fatalf("SubnetCount(%d), KingdomOf, EmpireOf, SwitchingEmpire = %d, %v, %v, %v, %v, %v, %v of%s", wire, count, kingdom, kingdomOk, empire, empireOk, switched, switchedOk, describeNet(n))
	}
	for _, other := range []int64{0, 1, wire, -1, int64(len(n.Wires)) - 1, int64(len(n.Wires)), math.MaxInt64, math.MinInt64} {
		if impl.InKingdom(n, other, wire) || impl.InKingdom(n, wire, other) {
			t.Fatalf("InKingdom(%d, %d) or the other way of%s", other, wire, describeNet(n))
		}
	}
}

// checkNoRealms fails if a function has a result for a net in which no wire has a kingdom.
func checkNoRealms(t *testing.T, n impl.Net) {
	t.Helper()
	for wire := range int64(min(len(n.Wires), 50)) {
		checkNoRealm(t, n, wire)
	}
	for _, wire := range []int64{0, -1, int64(len(n.Wires)), math.MaxInt64, math.MinInt64} {
		checkNoRealm(t, n, wire)
	}
}

// grownCorrect returns a correct net of so many axioms and at most so many par links, under any numbers. Its links follow from seed: a par
// joins two conclusions of one part, a cut or a tensor those of two parts.
func grownCorrect(count, pars int, seed *uint64) impl.Net {
	forms := []tree{leaf(1), leaf(-1), leaf(1), binary(12, leaf(1), leaf(-1)), leaf(-1), leaf(2)}
	var n impl.Net
	for _, place := range somePlaces(len(forms), seed)[:count] {
		n, _ = wantUnion(n, axioms(forms[place]))
	}
	for tries := 0; len(n.Links) < 2*count-1+pars && tries < 200; tries++ {
		i, j := choose(seed, uint64(len(n.Concl))), choose(seed, uint64(len(n.Concl)))
		ends := moved(viewOf(n).from, []int64{n.Concl[i], n.Concl[j]})
		kind := par
		if !slices.Contains(reachedFrom(allArcs(n), ends[0]), ends[1]) {
			kind = []int64{cut, cut, cut, tensor}[choose(seed, 4)]
		} else if len(wantLinksOf(n, par)) == pars {
			continue
		}
		if linked, ok := wantLinked(n, kind, int64(i), int64(j)); ok {
			n = linked
		}
	}
	return mixed(n, seed)
}
