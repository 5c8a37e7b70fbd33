package tests

import (
	"math"
	"slices"
	"sync"
	"testing"

	"loop.example/g00872/impl"
)

// parsingNames are the functions whose lists parsingResults returns, in order.
var parsingNames = []string{"ReadyLinks", "PartsAfter", "OpenWires", "FiringOrder", "LastFiringOrder", "StuckLinks"}

// parsingResults returns all lists that the functions of chapter 13 return for a net and a list of links.
func parsingResults(n impl.Net, fired []int64) [][]int64 {
	ready, _ := impl.ReadyLinks(n, fired)
	parts, _ := impl.PartsAfter(n, fired)
	open, _ := impl.OpenWires(n, fired)
	return [][]int64{ready, parts, open, impl.FiringOrder(n), impl.LastFiringOrder(n), impl.StuckLinks(n)}
}

func copyLists(lists [][]int64) [][]int64 {
	var out [][]int64
	for _, list := range lists {
		out = append(out, slices.Clone(list))
	}
	return out
}

// someFired returns some lists of links for a net: firing sequences, short and long, and others.
func someFired(t *testing.T, n impl.Net, seed *uint64) [][]int64 {
	if !isNet(n) {
		return [][]int64{nil, {0}}
	}
	fired := firedSomehow(t, n, seed)
	return [][]int64{nil, fired, fired[:len(fired)/2], append(slices.Clone(fired), 0)}
}

// No function of chapter 13 changes an argument, and no result shares memory with an argument or with another result, those of the same
// call with the same arguments included.
func TestParsingUnshared(t *testing.T) {
	seed, found := uint64(211), map[string]int{}
	nets := slices.Concat(netsOfMemory(), []impl.Net{parChains(10), parChains(22), oneFailing(6, 20), cutRing(5), cutChain(24), {}}, correctNets()[:60])
	for _, plain := range nets {
		for _, list := range someFired(t, plain, &seed) {
			for _, guard := range []func(impl.Net) (impl.Net, func() bool){guardedNet, packedNet} {
				n, changedNet := guard(plain)
				fired, changedFired := guarded(list)
				changed := func() bool { return changedNet() || changedFired() }
				first := parsingResults(n, fired)
				want := copyLists(first)
				again := parsingResults(n, fired)
				impl.IsFiringSequence(n, fired)
				impl.CorrectByParsing(n)
				if changed() {
					t.Fatalf("an argument is changed: %v of%s", list, describeNet(plain))
				}
				for at, name := range parsingNames {
					overwrite(first[at])
					if changed() || !sameForms(first[at+1:], want[at+1:]) || !sameForms(again, want) || at%3 == 0 && !sameForms(parsingResults(n, fired), want) {
						t.Fatalf("the result of %s shares memory with something: %v of%s", name, list, describeNet(plain))
					}
					if len(want[at]) > 0 {
						found[name]++
					}
				}
				overwriteNet(n)
				overwrite(fired)
				if !sameForms(again, want) {
					t.Fatalf("a result changes with an argument: %v of%s", list, describeNet(plain))
				}
			}
		}
	}
	for _, name := range parsingNames {
		if found[name] < 300 {
			t.Fatal("too few results", found)
		}
	}
}

// The result of FiringOrder serves as an argument, and no result shares memory with it.
func TestResultsAsFiringSequences(t *testing.T) {
	for _, n := range []impl.Net{netOf(tensorsFirst), netOf(threeInARow), netOf(joinedTwice), cutRing(6), cutChain(24)} {
		fired := impl.FiringOrder(n)
		want := slices.Clone(fired)
		for k := range len(fired) + 1 {
			lists := parsingResults(n, fired[:k])
			for _, list := range lists {
				overwrite(list)
			}
			if !slices.Equal(fired, want) || !impl.IsFiringSequence(n, fired[:k]) {
				t.Fatalf("FiringOrder = %v becomes %v, of%s", want, fired, describeNet(n))
			}
		}
	}
}

// One list serves as a formula, as the conclusions and as a firing sequence.
func TestParsingWithOneList(t *testing.T) {
	numbers, changed := guarded([]int64{1, 0, 3, 2})
	n := netOf("A, ~A, B, ~B; ax 0 1, ax 2 3; 1 0 3 2")
	n.Wires[0], n.Concl = numbers[:1], numbers
	if parts, ok := impl.PartsAfter(n, numbers[:2]); !ok || !slices.Equal(parts, []int64{0, 0, 1, 1}) || changed() {
		t.Fatal("PartsAfter", parts, ok)
	}
	if open, ok := impl.OpenWires(n, numbers[:1]); !ok || !slices.Equal(open, []int64{2, 3}) || changed() {
		t.Fatal("OpenWires", open, ok)
	}
	if checkNotFired(t, n, numbers); changed() {
		t.Fatal("an argument is changed")
	}
	for _, list := range parsingResults(n, numbers[:2]) {
		if overwrite(list); changed() {
			t.Fatal("a result shares memory with an argument")
		}
	}
}

// greatNets are nets with so many elements in one of their lists or in all of them, or with extreme numbers.
func greatNets(many int) []impl.Net {
	one := netOf(parOfAxiom)
	long := slices.Repeat([]int64{12}, many)
	return []impl.Net{
		{Wires: make([][]int64, many)}, {Links: make([]impl.Link, many)}, {Concl: make([]int64, many)}, {Wires: slices.Repeat(one.Wires, many)}, {Links: slices.Repeat([]impl.Link{{Kind: par}}, many)}, {Links: slices.Repeat([]impl.Link{{Kind: ax}}, 48)},
		{Wires: one.Wires, Links: slices.Repeat(one.Links, many), Concl: one.Concl}, {Wires: one.Wires, Links: one.Links, Concl: slices.Repeat(one.Concl, many)}, {Wires: [][]int64{long, long, long}, Links: one.Links, Concl: one.Concl},
		{Wires: slices.Repeat(one.Wires, many), Links: slices.Repeat(one.Links, many), Concl: slices.Repeat(one.Concl, many)}, {Wires: one.Wires, Links: slices.Repeat([]impl.Link{one.Links[1]}, 48), Concl: one.Concl},
		{Wires: one.Wires, Links: []impl.Link{{Kind: par, A: math.MinInt64, B: math.MaxInt64, C: math.MinInt64}}, Concl: one.Concl}, {Wires: one.Wires, Links: one.Links, Concl: []int64{math.MaxInt64}},
	}
}

// greatLists are lists of so many links, or with an extreme number.
func greatLists(many int) [][]int64 {
	return [][]int64{make([]int64, many), slices.Repeat([]int64{0, 1}, many), slices.Repeat([]int64{-1}, many), slices.Repeat([]int64{math.MinInt64}, many), slices.Repeat([]int64{math.MaxInt64}, many), inOrder(many), {math.MaxInt64}, {math.MinInt64}, {0, math.MaxInt64}, {0, math.MinInt64}}
}

// Lists of many elements and extreme numbers: every function returns, and there are no results for what is no net or no firing sequence.
func TestParsingOfGreatArguments(t *testing.T) {
	const many = 1 << 18
	for _, n := range greatNets(many) {
		checkNoParsing(t, n)
		checkNotFired(t, n, slices.Repeat([]int64{0, 1}, many))
	}
	for _, n := range []impl.Net{netOf(parOfAxiom), {}, netOf(tensorOfTwo), parChains(10), parChains(22), cutChain(24), cutRing(24)} {
		for _, fired := range greatLists(many) {
			checkNotFired(t, n, fired)
			checkNotFired(t, n, append(impl.FiringOrder(n), fired...))
		}
		for _, odd := range oddLinks {
			for _, fired := range [][]int64{{odd}, {odd, 0}, {0, odd}, {odd, odd}, append(impl.FiringOrder(n), odd)} {
				checkNotFired(t, n, fired)
			}
		}
	}
}

// Nets of 47 and 48 links and wires are parsed quickly, many times, also in an order that makes every union a long way.
func TestParsingAtTheLimits(t *testing.T) {
	seed := uint64(212)
	nets := []impl.Net{cutChain(24), turned(cutChain(24)), cutRing(24), turned(cutRing(24)), fullNets()[25], parChains(22)}
	for _, n := range nets {
		nets = append(nets, mixed(n, &seed))
	}
	for _, n := range nets {
		correct := impl.CorrectByContraction(n)
		for range 40 {
			fired := firedSomehow(t, n, &seed)
			if impl.CorrectByParsing(n) != correct || isParsed(t, n, fired) != correct || len(impl.FiringOrder(n))+len(impl.StuckLinks(n)) != len(n.Links) || len(impl.LastFiringOrder(n)) > len(n.Links) {
				t.Fatalf("CorrectByParsing = %v after %v of%s", impl.CorrectByParsing(n), fired, describeNet(n))
			}
		}
	}
	// From its end the chain is united by one cut after the other, each with a part of a smaller number.
	chain := cutChain(24)
	fired := []int64{23}
	for k := int64(22); k >= 0; k-- {
		fired = append(fired, k, 24+k)
	}
	if parts, ok := impl.PartsAfter(chain, fired); !ok || !slices.Equal(parts, make([]int64, 48)) || !checkSequence(t, chain, fired) {
		t.Fatal("PartsAfter of a chain", parts, ok)
	}
}

// Calls at the same time do not disturb each other.
func TestParsingAtTheSameTime(t *testing.T) {
	seed := uint64(213)
	nets := slices.Concat(smallNets(16)[:40], []impl.Net{oneFailing(8, 200), cutRing(20)}, correctNets()[:20])
	faults := make([]bool, len(nets))
	var group sync.WaitGroup
	for at, n := range nets {
		v := viewOf(n)
		for _, link := range firedSomehow(t, n, &seed) {
			v = v.after(link)
		}
		first, last := wantOrder(n, slices.Min), wantOrder(n, slices.Max)
		want := [][]int64{v.ready(), v.parts(), v.open(), first.fired, last.fired, first.left()}
		correct := first.isWhole()
		group.Go(func() {
			for range 20 {
				if !sameForms(parsingResults(n, v.fired), want) || !impl.IsFiringSequence(n, v.fired) || impl.CorrectByParsing(n) != correct {
					faults[at] = true
				}
			}
		})
	}
	group.Wait()
	if at := slices.Index(faults, true); at >= 0 {
		t.Fatalf("results differ at the same time, of%s", describeNet(nets[at]))
	}
}
