package tests

import (
	"slices"
	"sync"
	"testing"

	"loop.example/g00872/impl"
)

// proofResults is all that the functions of chapter 14 return for a net, a list of links and a link.
type proofResults struct {
	proofs [][]impl.Step
	links  [][]int64
	nets   []impl.Net
}

func proofResultsOf(n impl.Net, fired []int64, link int64) proofResults {
	first, _ := impl.Sequentialised(n)
	second, _ := impl.SequentialisedBy(n, fired)
	a, b, _ := impl.SplitNet(n, link)
	rest, _ := impl.RemovePar(n, link)
	verdict := int64(0)
	if impl.IsSequentialisable(n) {
		verdict = 1
	}
	return proofResults{[][]impl.Step{first, second}, [][]int64{impl.TerminalLinks(n), impl.SplittingLinks(n), {impl.LastLink(n), verdict}}, []impl.Net{a, b, rest}}
}

func (m proofResults) copied() proofResults {
	var out proofResults
	for _, list := range m.proofs {
		proof := slices.Clone(list)
		for k, s := range list {
			proof[k].Form = slices.Clone(s.Form)
		}
		out.proofs = append(out.proofs, proof)
	}
	for _, n := range m.nets {
		out.nets = append(out.nets, copyNet(n))
	}
	out.links = copyLists(m.links)
	return out
}

func (m proofResults) equals(other proofResults) bool {
	return slices.EqualFunc(m.proofs, other.proofs, sameSteps) && sameForms(m.links, other.links) && slices.EqualFunc(m.nets, other.nets, sameNet)
}

// pieces returns for each part of the results a function that overwrites it and then puts its content back from a copy.
func (m proofResults) pieces(want proofResults) []func() {
	var out []func()
	for at := range m.proofs {
		out = append(out, func() {
			overwriteSteps(m.proofs[at][:cap(m.proofs[at])])
			m.proofs[at] = want.proofs[at]
		})
	}
	for at := range m.links {
		out = append(out, func() {
			overwrite(m.links[at])
			m.links[at] = want.links[at]
		})
	}
	for at := range m.nets {
		out = append(out, func() {
			overwriteNet(m.nets[at])
			m.nets[at] = want.nets[at]
		})
	}
	return out
}

// netsOfProofMemory are nets with proofs, with splitting links, with terminal par links, and others.
func netsOfProofMemory() []impl.Net {
	out := slices.Concat(netsOfMemory(), []impl.Net{parChains(10), cutRing(5), cutChain(20), cutChain(24), tensorRow(9), tensorRow(12), netOf(parBeside), netOf(twoPars), {}}, correctNets()[:80])
	for _, c := range halvesOfNets {
		out = append(out, netOf(c.net))
	}
	return out
}

// linksOfMemory returns some links of a net, and one that it does not have.
func linksOfMemory(n impl.Net) []int64 {
	return append([]int64{0, int64(len(n.Links)), wantLast(n)}, wantTerminal(n)[:min(len(wantTerminal(n)), 2)]...)
}

// No function of chapter 14 changes an argument, and no result shares memory with an argument or with another result, those of the same call
// with the same arguments included.
func TestSequentialisationUnshared(t *testing.T) {
	seed, found := uint64(251), [3]int{}
	for at, plain := range netsOfProofMemory() {
		list := []int64{0}
		if isNet(plain) {
			list = firedSomehow(t, plain, &seed)
		}
		guard := []func(impl.Net) (impl.Net, func() bool){guardedNet, packedNet}[at%2]
		for _, link := range linksOfMemory(plain) {
			n, changedNet := guard(plain)
			fired, changedFired := guarded(list)
			changed := func() bool { return changedNet() || changedFired() }
			first := proofResultsOf(n, fired, link)
			want := first.copied()
			again := proofResultsOf(n, fired, link)
			if changed() || !again.equals(want) {
				t.Fatalf("an argument is changed, or the results: %v, %d of%s", list, link, describeNet(plain))
			}
			for _, overwrite := range first.pieces(want) {
				if overwrite(); changed() || !first.equals(want) || !again.equals(want) {
					t.Fatalf("results share memory: %v, %d of%s", list, link, describeNet(plain))
				}
			}
			if !proofResultsOf(n, fired, link).equals(want) {
				t.Fatalf("a result is kept: %v, %d of%s", list, link, describeNet(plain))
			}
			overwriteNet(n)
			if overwrite(fired); !again.equals(want) {
				t.Fatalf("a result changes with an argument: %v, %d of%s", list, link, describeNet(plain))
			}
			for k, made := range []int{len(want.proofs[1]), len(want.nets[0].Wires), len(want.nets[2].Wires)} {
				found[k] += min(made, 1)
			}
		}
	}
	if found[0] < 200 || found[1] < 100 || found[2] < 100 {
		t.Fatal("too few results", found)
	}
}

// No two slices of one result share memory.
func TestPartsOfResultsUnshared(t *testing.T) {
	seed, found := uint64(252), map[bool]int{}
	for _, plain := range netsOfProofMemory() {
		if !isNet(plain) {
			continue
		}
		n, changed := guardedNet(plain)
		fired := firedSomehow(t, plain, &seed)
		if want, ok := wantSteps(plain, fired); ok && len(want) < 20 {
			checkStepsUnshared(t, "SequentialisedBy", func() ([]impl.Step, bool) { return impl.SequentialisedBy(n, fired) }, want, changed)
		}
		if want, ok := impl.Sequentialised(plain); ok && len(want) < 20 {
			checkStepsUnshared(t, "Sequentialised", func() ([]impl.Step, bool) { return impl.Sequentialised(n) }, want, changed)
		}
		for _, link := range linksOfMemory(plain) {
			found[checkNetUnshared(t, "the first net of SplitNet", func() (impl.Net, bool) { a, _, ok := impl.SplitNet(n, link); return a, ok }, changed)]++
			found[checkNetUnshared(t, "the second net of SplitNet", func() (impl.Net, bool) { _, b, ok := impl.SplitNet(n, link); return b, ok }, changed)]++
			found[checkNetUnshared(t, "RemovePar", func() (impl.Net, bool) { return impl.RemovePar(n, link) }, changed)]++
		}
	}
	if found[true] < 300 {
		t.Fatal("too few results", found)
	}
}

// One list serves as several wires, as the conclusions and as a firing sequence, and results serve as arguments.
func TestSequentialisationWithOneList(t *testing.T) {
	a, changedA := guarded([]int64{1})
	b, changedB := guarded([]int64{-1})
	numbers, changedNumbers := guarded([]int64{0, 1, 2})
	changed := func() bool { return changedA() || changedB() || changedNumbers() }
	n := netOf("A, ~A, A, ~A, (A*~A); ax 0 1, ax 2 3, tensor 2 1 4; 0 3 4")
	n.Wires[0], n.Wires[1], n.Wires[2], n.Wires[3] = a, b, a, b
	if !checkSteps(t, n, numbers) || changed() {
		t.Fatal("no proof with one list")
	}
	want, _ := wantSteps(n, numbers)
	checkStepsUnshared(t, "SequentialisedBy", func() ([]impl.Step, bool) { return impl.SequentialisedBy(n, numbers) }, want, changed)
	if checkEnds(t, n); changed() {
		t.Fatal("an argument is changed")
	}
	for at := range 2 {
		part := func() (impl.Net, bool) {
			first, second, ok := impl.SplitNet(n, 2)
			return []impl.Net{first, second}[at], ok
		}
		if !checkNetUnshared(t, "SplitNet", part, changed) {
			t.Fatal("no parts with one list")
		}
	}
	one := netOf("A, ~A; ax 0 1; 0 1")
	one.Concl = numbers[:2]
	if list, ok := impl.SequentialisedBy(one, one.Concl[:1]); !ok || len(list) != 1 || changed() {
		t.Fatal("SequentialisedBy of the conclusions", describe(list), ok)
	}
	chain := cutChain(20)
	fired := impl.LastFiringOrder(chain)
	kept := slices.Clone(fired)
	list, ok := impl.SequentialisedBy(chain, fired)
	if overwriteSteps(list); !ok || !slices.Equal(fired, kept) || !checkSteps(t, chain, fired) {
		t.Fatal("SequentialisedBy of a result", ok)
	}
}

// Calls at the same time do not disturb each other.
func TestSequentialisationAtTheSameTime(t *testing.T) {
	seed := uint64(253)
	nets := slices.Concat(smallNets(16)[:40], []impl.Net{oneFailing(8, 200), cutRing(20), cutChain(20)}, correctNets()[:30])
	faults := make([]bool, len(nets))
	var group sync.WaitGroup
	for at, n := range nets {
		fired, link := firedSomehow(t, n, &seed), impl.LastLink(n)
		want := proofResultsOf(n, fired, link)
		group.Go(func() {
			for range 10 {
				if !proofResultsOf(n, fired, link).equals(want) {
					faults[at] = true
				}
			}
		})
	}
	group.Wait()
	if at := slices.Index(faults, true); at >= 0 {
		t.Fatalf("results differ at the same time, of%s", describeNet(nets[at]))
	}
}
