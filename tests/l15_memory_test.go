package tests

import (
	"math"
	"slices"
	"sync"
	"testing"
	"time"

	"loop.example/g00872/impl"
)

// subnetResults is all that the functions of chapter 15 return for a net, a list of links and a wire.
type subnetResults struct {
	lists [][]int64
	net   impl.Net
}

func subnetResultsOf(n impl.Net, links []int64, wire int64) subnetResults {
	var out subnetResults
	out.net, _ = impl.SubNet(n, links)
	kingdom, _ := impl.KingdomOf(n, wire)
	empire, _ := impl.EmpireOf(n, wire)
	switched, _ := impl.SwitchingEmpire(n, wire)
	verdicts := int64(0)
	for at, verdict := range []bool{impl.IsClosedSet(n, links), impl.IsSubnetSet(n, links), impl.InKingdom(n, wire, wire+1), impl.InKingdom(n, wire+1, wire)} {
		if verdict {
			verdicts |= 1 << at
		}
	}
	out.lists = [][]int64{impl.BorderOf(n, links), kingdom, empire, switched, {impl.SubnetCount(n, wire), verdicts}}
	return out
}

func (r subnetResults) copied() subnetResults {
	return subnetResults{copyLists(r.lists), copyNet(r.net)}
}

func (r subnetResults) equals(other subnetResults) bool {
	return sameForms(r.lists, other.lists) && sameNet(r.net, other.net)
}

// setsOfMemory returns some lists of links of a net: closed sets, which follow from seed if the net is valid, and others.
func setsOfMemory(n impl.Net, seed *uint64) [][]int64 {
	if !isNet(n) || len(n.Links) == 0 {
		return [][]int64{{0}}
	}
	some := uint64(1) << choose(seed, uint64(len(n.Links)))
	return [][]int64{inOrder(len(n.Links)), listOf(linksAbove(n, some)), listOf(linksNotBelow(n, some)), listOf(some)}
}

// netsOfSubnetMemory are nets with kingdoms, and others.
func netsOfSubnetMemory() []impl.Net {
	out := slices.Concat(netsOfMemory(), []impl.Net{cutChain(5), cutChain(24), tensorRow(5), parChains(10), cutRing(4), netOf(tensorsApart), {}}, correctNets()[:60])
	for _, c := range realmsOfWires {
		out = append(out, netOf(c.net))
	}
	return out
}

// No function of chapter 15 changes an argument, and no result shares memory with an argument or with another result, those of the same call
// with the same arguments included.
func TestSubnetsUnshared(t *testing.T) {
	seed, found := uint64(281), [3]int{}
	for at, plain := range netsOfSubnetMemory() {
		guard := []func(impl.Net) (impl.Net, func() bool){guardedNet, packedNet}[at%2]
		for _, list := range setsOfMemory(plain, &seed) {
			wire := int64(choose(&seed, uint64(len(plain.Wires)+1)))
			n, changedNet := guard(plain)
			links, changedLinks := guarded(list)
			changed := func() bool { return changedNet() || changedLinks() }
			first := subnetResultsOf(n, links, wire)
			want := first.copied()
			again := subnetResultsOf(n, links, wire)
			if changed() || !again.equals(want) {
				t.Fatalf("an argument is changed, or the results: %v, %d of%s", list, wire, describeNet(plain))
			}
			for k := range first.lists {
				overwrite(first.lists[k])
				if first.lists[k] = want.lists[k]; changed() || !first.equals(want) || !again.equals(want) {
					t.Fatalf("results share memory: %v, %d of%s", list, wire, describeNet(plain))
				}
			}
			overwriteNet(first.net)
			if changed() || !sameForms(first.lists, want.lists) || !again.equals(want) || !subnetResultsOf(n, links, wire).equals(want) {
				t.Fatalf("a result is kept or shares memory: %v, %d of%s", list, wire, describeNet(plain))
			}
			overwriteNet(n)
			if overwrite(links); !again.equals(want) {
				t.Fatalf("a result changes with an argument: %v, %d of%s", list, wire, describeNet(plain))
			}
			for k, made := range []int{len(want.net.Links), len(want.lists[0]), len(want.lists[1])} {
				found[k] += min(made, 1)
			}
		}
	}
	if found[0] < 300 || found[1] < 300 || found[2] < 300 {
		t.Fatal("too few results", found)
	}
}

// No two slices of a subnet share memory, and none with an argument.
func TestSubnetsOfOneResultUnshared(t *testing.T) {
	seed, found := uint64(282), map[bool]int{}
	for _, plain := range netsOfSubnetMemory() {
		n, changedNet := guardedNet(plain)
		for _, list := range setsOfMemory(plain, &seed) {
			links, changedLinks := guarded(list)
			changed := func() bool { return changedNet() || changedLinks() }
			found[checkNetUnshared(t, "SubNet", func() (impl.Net, bool) { return impl.SubNet(n, links) }, changed)]++
		}
	}
	if found[true] < 300 {
		t.Fatal("too few results", found)
	}
}

// One list serves as several wires, as the conclusions and as a set, and results serve as arguments.
func TestSubnetsWithOneList(t *testing.T) {
	a, changedA := guarded([]int64{1})
	b, changedB := guarded([]int64{-1})
	numbers, changedNumbers := guarded([]int64{0, 1, 2, 3})
	changed := func() bool { return changedA() || changedB() || changedNumbers() }
	n := netOf("A, ~A, A, ~A; ax 0 1, ax 2 3; 0 1 2 3")
	n.Wires[0], n.Wires[1], n.Wires[2], n.Wires[3], n.Concl = a, b, a, b, numbers
	if !checkNetUnshared(t, "SubNet", func() (impl.Net, bool) { return impl.SubNet(n, numbers[:2]) }, changed) || !checkSet(t, n, numbers[:2], false) || changed() {
		t.Fatal("SubNet with one list")
	}
	overwrite(impl.BorderOf(n, numbers[:2]))
	if overwrite(impl.BorderOf(n, a)); changed() {
		t.Fatal("an argument is changed")
	}
	chain := cutChain(5)
	empire, ok := impl.EmpireOf(chain, 0)
	kept := slices.Clone(empire)
	sub, subOk := impl.SubNet(chain, empire)
	overwriteNet(sub)
	if overwrite(impl.BorderOf(chain, empire)); !ok || !subOk || !slices.Equal(empire, kept) || !impl.IsSubnetSet(chain, empire) {
		t.Fatal("SubNet of a result", empire)
	}
}

// Lists of many elements and extreme numbers: every function returns, and there are no results for what is no net, no set or no wire.
func TestSubnetsOfGreatArguments(t *testing.T) {
	const many = 1 << 18
	for _, n := range greatNets(many) {
		for _, links := range append(greatLists(many), nil, []int64{0}, []int64{0, 1}) {
			checkNoSet(t, n, links)
		}
		for _, wire := range []int64{0, 1, many, -1, math.MaxInt64, math.MinInt64} {
			checkNoRealm(t, n, wire)
		}
	}
	for _, n := range []impl.Net{netOf(parOfAxiom), {}, netOf(tensorOfTwo), netOf(joinedTwice), parChains(22), cutChain(5), cutChain(24), cutRing(24), tensorRow(5)} {
		for _, links := range greatLists(many) {
			checkNoSet(t, n, links)
			checkNoSet(t, n, append(inOrder(len(n.Links)), links...))
		}
		for _, odd := range oddLinks {
			checkNoRealm(t, n, odd)
			checkNoSet(t, n, []int64{odd})
			checkNoSet(t, n, []int64{0, odd})
			checkNoSet(t, n, append(inOrder(len(n.Links)), odd))
		}
	}
}

// Within the limits the functions return in reasonable time: nets of ten links with as many axioms as they can have, which have most
// subnets, and with as many par links.
func TestTimeOfSubnets(t *testing.T) {
	seed, start, calls := uint64(283), time.Now(), 0
	more, _ := wantLinked(tensorRow(5), par, 0, 5)
	nets := []impl.Net{tensorRow(5), cutChain(5), more, turned(more)}
	for range 10 {
		nets = append(nets, grownCorrect(4, 3, &seed), grownCorrect(5, 1, &seed))
	}
	for _, n := range nets {
		for wire := range int64(len(n.Wires)) {
			calls++
			if kingdom, ok := impl.KingdomOf(n, wire); !ok || len(kingdom) == 0 || impl.SubnetCount(n, wire) < 1 || !impl.InKingdom(n, wire, wire) {
				t.Fatalf("KingdomOf(%d) = %v, %v of%s", wire, kingdom, ok, describeNet(n))
			}
		}
	}
	if spent := time.Since(start); spent > time.Duration(calls)*100*time.Millisecond {
		t.Fatal("too slow", calls, spent)
	}
}

// Calls at the same time do not disturb each other.
func TestSubnetsAtTheSameTime(t *testing.T) {
	seed := uint64(284)
	nets := slices.Concat(smallNets(16)[:40], []impl.Net{cutRing(20), cutChain(5), tensorRow(5)}, correctNets()[:30])
	faults := make([]bool, len(nets))
	var group sync.WaitGroup
	for at, n := range nets {
		links, wire := setsOfMemory(n, &seed)[0], int64(choose(&seed, uint64(len(n.Wires)+1)))
		want := subnetResultsOf(n, links, wire)
		group.Go(func() {
			for range 10 {
				if !subnetResultsOf(n, links, wire).equals(want) {
					faults[at] = true
				}
			}
		})
	}
	group.Wait()
	if at := slices.Index(faults, true); at >= 0 {
		t.Fatalf("results differ at the same time, of%s", describeNet(nets[at]))
	}
}
