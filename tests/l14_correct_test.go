package tests

import (
	"slices"
	"testing"

	"loop.example/g00872/impl"
)

// agreeOnProofs fails unless a net is sequentialisable exactly if it is correct by parsing and, as it is valid, by contraction. It returns the
// verdict.
func agreeOnProofs(t *testing.T, n impl.Net) bool {
	t.Helper()
	sequentialisable := impl.IsSequentialisable(n)
	if parses, contracts := impl.CorrectByParsing(n), impl.CorrectByContraction(n); sequentialisable != parses || parses != contracts {
		t.Fatalf("IsSequentialisable = %v, CorrectByParsing = %v, CorrectByContraction = %v of%s", sequentialisable, parses, contracts, describeNet(n))
	}
	return sequentialisable
}

// The cases that the document names: a net that is not valid, the empty one, a cycle, two parts.
func TestSequentialisableWrittenOut(t *testing.T) {
	for _, c := range verdicts {
		if n := netOf(c.net); impl.IsSequentialisable(n) != (c.index == -1) || agreeOnProofs(t, n) != hasProof(n) && len(n.Links) > 0 {
			t.Fatalf("IsSequentialisable = %v of %s", impl.IsSequentialisable(n), c.net)
		}
	}
	for _, c := range orders {
		if n := netOf(c.net); impl.IsSequentialisable(n) != c.correct {
			t.Fatalf("IsSequentialisable = %v of %s", impl.IsSequentialisable(n), c.net)
		}
	}
	// The cycle and the second part are found below links that are removed before.
	for net, want := range map[string]bool{
		"; ; ": false, pathOfPars: true, parsBackward: true, parBeside: true, parBelowCut: true, crossedTwice: false, tensorBack: true,
		"A, ~A, (A*~A), B, ~B, (B*(A*~A)); ax 0 1, tensor 0 1 2, ax 3 4, tensor 3 2 5; 4 5":                                            false,
		"A, ~A, (A*~A), B, ~B, (B*(A*~A)), (~B|(B*(A*~A))); ax 0 1, tensor 0 1 2, ax 3 4, tensor 3 2 5, par 4 5 6; 6":                  false,
		"A, ~A, B, ~B, (A|B), (~A|(A|B)), (~B|(~A|(A|B))); ax 0 1, ax 2 3, par 0 2 4, par 1 4 5, par 3 5 6; 6":                         false,
		"A, ~A, B, ~B, (A|B), (~A|(A|B)), C, ~C, ((~A|(A|B))*C); ax 0 1, ax 2 3, par 0 2 4, par 1 4 5, ax 6 7, tensor 5 6 8; 3 7 8":    false,
		"A, ~A, B, ~B, (A*B), (~A|(A*B)), C, ~C, ((~A|(A*B))*C); ax 0 1, ax 2 3, tensor 0 2 4, par 1 4 5, ax 6 7, tensor 5 6 8; 3 7 8": true,
		"A, ~A, B, ~B, C, ~C, (A*B), (~B*C), (~A|~C); ax 0 1, ax 2 3, ax 4 5, tensor 0 2 6, tensor 3 4 7, par 1 5 8; 6 7 8":            true,
		"A, ~A, B, ~B, C, ~C, (A*B), (~B*C), (~A*~C); ax 0 1, ax 2 3, ax 4 5, tensor 0 2 6, tensor 3 4 7, tensor 1 5 8; 6 7 8":         false,
	} {
		n := netOf(net)
		if !isNet(n) || impl.IsSequentialisable(n) != want || agreeOnProofs(t, n) != want || len(n.Links) > 0 && hasProof(n) != want {
			t.Fatalf("IsSequentialisable = %v of %s", impl.IsSequentialisable(n), net)
		}
	}
}

// Exactly the correct nets are sequentialisable: nets of all kinds, under any numbers, many of which are not correct.
func TestSequentialisableNets(t *testing.T) {
	seed, found := uint64(241), map[bool]int{}
	for at, n := range slices.Concat(parsedNets(), correctNets(), netsOfParts()) {
		if at%2 == 0 {
			n = mixed(n, &seed)
		}
		correct := agreeOnProofs(t, n)
		if found[correct]++; len(n.Links) <= 10 && len(n.Links) > 0 && hasProof(n) != correct {
			t.Fatalf("IsSequentialisable = %v of%s", correct, describeNet(n))
		}
		if list, ok := impl.Sequentialised(n); ok && (!correct || len(list) < len(n.Links)) {
			t.Fatalf("Sequentialised = %v of%s", ok, describeNet(n))
		}
	}
	for range 800 {
		n := smallGrownNet(&seed)
		correct := agreeOnProofs(t, n)
		if found[correct]++; correct != hasProof(n) {
			t.Fatalf("IsSequentialisable = %v of%s", correct, describeNet(n))
		}
	}
	if found[true] < 5000 || found[false] < 600 {
		t.Fatal("too few nets", found)
	}
}

// The same for every net that links make of two axioms.
func TestSequentialisableNetsOfTwoAxioms(t *testing.T) {
	found := map[bool]int{}
	for _, forms := range [][]tree{{leaf(1)}, {leaf(1), leaf(1)}, {leaf(1), leaf(2)}} {
		joinedInAllWays(axioms(forms...), func(n impl.Net) {
			correct := agreeOnProofs(t, n)
			if found[correct]++; correct != hasProof(n) {
				t.Fatalf("IsSequentialisable = %v of%s", correct, describeNet(n))
			}
		})
	}
	if found[true] < 500 || found[false] < 800 {
		t.Fatal("too few nets", found)
	}
}

// LastLink leads from a correct net to correct nets, and the last link of every proof is terminal. A correct net of two links or more has a
// par that is terminal or a splitting link.
func TestLastLinksOfCorrectNets(t *testing.T) {
	found := map[int64]int{}
	for _, n := range correctNets() {
		last := impl.LastLink(n)
		if last < 0 {
			t.Fatalf("LastLink = %d of%s", last, describeNet(n))
		}
		kind := n.Links[last].Kind
		found[kind]++
		parts := []impl.Net{}
		first, second, splits := impl.SplitNet(n, last)
		rest, removes := impl.RemovePar(n, last)
		if splits {
			parts = append(parts, first, second)
		}
		if removes {
			parts = append(parts, rest)
		}
		if splits != (kind == tensor || kind == cut) || removes != (kind == par) || kind == ax && len(n.Links) > 1 {
			t.Fatalf("LastLink = %d of%s", last, describeNet(n))
		}
		for _, part := range parts {
			if !impl.CorrectByParsing(part) || !impl.IsSequentialisable(part) {
				t.Fatalf("the link %d leads to a net that is not correct:%s\nof%s", last, describeNet(part), describeNet(n))
			}
		}
		if fired := impl.FiringOrder(n); !slices.Contains(impl.TerminalLinks(n), fired[len(fired)-1]) {
			t.Fatalf("the last link of %v is not terminal, of%s", fired, describeNet(n))
		}
	}
	if found[ax] < 5 || found[cut] < 50 || found[tensor] < 30 || found[par] < 100 {
		t.Fatal("too few nets", found)
	}
}

// Nets with up to 48 links and wires are judged quickly: chains and rings of cuts, rows of tensors, chains of par links, and nets with more
// than ten par links.
func TestSequentialisableAtTheLimits(t *testing.T) {
	seed := uint64(242)
	check := func(n impl.Net, want bool) {
		for _, other := range []impl.Net{n, turned(n), mixed(n, &seed), mixed(n, &seed)} {
			if !isNet(other) || agreeOnProofs(t, other) != want {
				t.Fatalf("IsSequentialisable = %v of%s", !want, describeNet(other))
			}
		}
	}
	for count := 1; count <= 24; count++ {
		check(cutChain(count), true)
		check(axioms(slices.Repeat([]tree{leaf(1)}, count)...), count == 1)
		if count > 1 {
			check(cutRing(count), false)
		}
	}
	for count := 1; count <= 16; count++ {
		check(tensorRow(count), true)
	}
	for pars := 0; pars <= 22; pars++ {
		check(parChains(pars), false)
	}
	for pars := range 11 {
		check(oneFailing(pars, 1<<pars/2), false)
	}
	for range 8 {
		f := multTree(23, &seed)
		n, _ := wantLinkedNet(seqOfTrees([]tree{f, f.dual()}), append(inOrder(24)[12:], inOrder(12)...))
		check(n, true)
		more, _ := joinedAt(n, par, n.Concl[1], n.Concl[0])
		check(more, false)
	}
	for _, n := range fullNets() {
		for range 4 {
			agreeOnProofs(t, mixed(n, &seed))
		}
	}
}

// A net that is not valid has no result, whatever the reason is.
func TestSequentialisationOfBrokenNets(t *testing.T) {
	for _, n := range brokenNets() {
		checkNoSequential(t, n)
	}
	found := map[bool]int{}
	for _, n := range append(smallNets(5), netOf(joinedTwice), netOf(tensorsFirst)) {
		changedNets(n, func(changed impl.Net) {
			valid := isNet(changed)
			if found[valid]++; valid {
				checkEnds(t, changed)
				checkSequential(t, changed)
				agreeOnProofs(t, changed)
			} else {
				checkNoSequential(t, changed)
			}
		})
	}
	if found[true] < 80 || found[false] < 500 {
		t.Fatal("too few nets", found)
	}
}

// Lists of many elements and extreme numbers: every function returns, and there are no results for what is no net, no link or no firing
// sequence.
func TestSequentialisationOfGreatArguments(t *testing.T) {
	const many = 1 << 18
	for _, n := range greatNets(many) {
		checkNoSequential(t, n)
		checkNoSteps(t, n, slices.Repeat([]int64{0, 1}, many))
	}
	for _, n := range []impl.Net{netOf(parOfAxiom), {}, netOf(tensorOfTwo), netOf(joinedTwice), parChains(22), cutChain(20), cutChain(24), cutRing(24), tensorRow(9)} {
		for _, fired := range greatLists(many) {
			checkNoSteps(t, n, fired)
			checkNoSteps(t, n, append(impl.FiringOrder(n), fired...))
		}
		for _, odd := range oddLinks {
			checkNoSplit(t, n, odd)
			checkNoSteps(t, n, append(impl.FiringOrder(n), odd))
			checkNoSteps(t, n, append([]int64{odd}, impl.FiringOrder(n)...))
		}
	}
}
