package tests

import (
	"slices"
	"testing"

	"loop.example/g00872/impl"
)

// agreeAll fails unless parsing and contraction have the same verdict on a valid net, and switchings too if it has at most ten par links.
// It returns the verdict.
func agreeAll(t *testing.T, n impl.Net) bool {
	t.Helper()
	parses, contracts := impl.CorrectByParsing(n), impl.CorrectByContraction(n)
	if parses != contracts {
		t.Fatalf("CorrectByParsing = %v, CorrectByContraction = %v of%s", parses, contracts, describeNet(n))
	}
	if correct := impl.CorrectBySwitchings(n); len(wantLinksOf(n, par)) <= 10 && parses != correct {
		t.Fatalf("CorrectByParsing = %v, CorrectBySwitchings = %v of%s", parses, correct, describeNet(n))
	}
	return parses
}

// checkEnd fails unless a firing sequence that cannot be continued contains all links and unites them exactly if the net is correct. It
// reports whether it contains all links.
func checkEnd(t *testing.T, n impl.Net, fired []int64, correct bool) bool {
	t.Helper()
	if isParsed(t, n, fired) != correct {
		t.Fatalf("the firing sequence %v does not agree with the verdict %v, of%s", fired, correct, describeNet(n))
	}
	return len(fired) == len(n.Links)
}

// The net of every multiplicative proof is correct, and all its links are fired into one part in the order of the steps and in others.
func TestNetsOfProofsParse(t *testing.T) {
	seed, proofs := uint64(201), someMultProofs()
	checkVariety(t, proofs)
	for at, list := range proofs {
		n, ok := impl.NetOf(list)
		if !ok || !impl.CorrectByParsing(n) || !agreeAll(t, n) || len(impl.StuckLinks(n)) > 0 {
			t.Fatalf("CorrectByParsing = false of the net of%s", describe(list))
		}
		if at%5 == 0 && !checkParsing(t, n) {
			t.Fatalf("the tests do not take the net for correct, of%s", describe(list))
		}
		// Every step of a proof comes after its premises.
		for _, fired := range [][]int64{inOrder(len(n.Links)), impl.FiringOrder(n), impl.LastFiringOrder(n), firedSomehow(t, n, &seed)} {
			checkEnd(t, n, fired, true)
		}
		for _, other := range []impl.Net{turned(n), mixed(n, &seed)} {
			if !impl.CorrectByParsing(other) || !agreeAll(t, other) {
				t.Fatalf("CorrectByParsing = false of other numbers, of%s", describeNet(n))
			}
			checkEnd(t, other, firedSomehow(t, other, &seed), true)
		}
	}
}

// The nets of the parts of a proof are correct.
func TestNetsOfPartsParse(t *testing.T) {
	nets := netsOfParts()
	for _, n := range nets {
		if !impl.CorrectByParsing(n) {
			t.Fatalf("CorrectByParsing = false of%s", describeNet(n))
		}
	}
	if len(nets) < 5000 {
		t.Fatal("too few parts", len(nets))
	}
}

// Parsing has no limit of par links: the net of the identity proof of a formula with twelve leaves has eleven, and is correct. A par of its
// two conclusions keeps it correct; a cut or a tensor of them is never ready.
func TestNetsOfIdentityProofsParse(t *testing.T) {
	seed, found := uint64(202), map[int]int{}
	for leaves := 1; leaves <= 12; leaves++ {
		for range 12 {
			list := leafyProof(leaves, &seed)
			n, ok := impl.NetOf(list)
			if len(list) > 40 {
				continue
			}
			if found[leaves]++; !ok || len(impl.ParLinks(n)) != leaves-1 || !impl.CorrectByParsing(n) || !agreeAll(t, n) || !checkParsing(t, n) {
				t.Fatalf("CorrectByParsing = false for %d leaves, of%s", leaves, describeNet(n))
			}
			if more, ok := impl.LinkNet(n, par, 0, 1); ok && !impl.CorrectByParsing(more) {
				t.Fatalf("CorrectByParsing = false of%s", describeNet(more))
			}
			for _, kind := range []int64{cut, tensor} {
				if more, ok := impl.LinkNet(n, kind, 0, 1); ok && (impl.CorrectByParsing(more) || !slices.Equal(impl.StuckLinks(more), []int64{int64(len(n.Links))})) {
					t.Fatalf("StuckLinks = %v of%s", impl.StuckLinks(more), describeNet(more))
				}
			}
		}
	}
	if found[1] < 12 || found[11] < 6 || found[12] < 3 {
		t.Fatal("too few proofs", found)
	}
	// Of each chain only the first par link joins both outputs of one axiom.
	for pars := range 23 {
		n := parChains(pars)
		stuck := slices.DeleteFunc(wantLinksOf(n, par), func(link int64) bool { return link == 12 || link == 23 })
		if len(impl.ParLinks(n)) != pars || impl.CorrectByParsing(n) || agreeAll(t, n) || !slices.Equal(impl.StuckLinks(n), stuck) {
			t.Fatal("CorrectByParsing of par links between axioms", pars)
		}
	}
}

// The empty net has no link, so that it is not correct, although no link is stuck.
func TestParsingVerdictsWrittenOut(t *testing.T) {
	for _, c := range verdicts {
		n := netOf(c.net)
		if agreeAll(t, n) != (c.index == -1) || checkParsing(t, n) != (c.index == -1) {
			t.Fatalf("CorrectByParsing = %v of %s", impl.CorrectByParsing(n), c.net)
		}
	}
	for _, empty := range []impl.Net{{}, {Wires: [][]int64{}, Links: []impl.Link{}, Concl: []int64{}}} {
		if parts, ok := impl.PartsAfter(empty, nil); impl.CorrectByParsing(empty) || len(impl.StuckLinks(empty)) > 0 || !ok || len(parts) > 0 {
			t.Fatal("CorrectByParsing of the empty net", parts, ok)
		}
	}
	for count := 1; count <= 24; count++ {
		n := axioms(slices.Repeat([]tree{leaf(1)}, count)...)
		if impl.CorrectByParsing(n) != (count == 1) || len(impl.StuckLinks(n)) > 0 || agreeAll(t, n) != (count == 1) {
			t.Fatal("CorrectByParsing of axioms side by side", count)
		}
	}
}

// Where only one of up to 1024 switchings fails, some links are stuck.
func TestOnlyFailingSwitchingParses(t *testing.T) {
	seed := uint64(203)
	for pars := range 11 {
		for index := range int64(1) << pars {
			if pars > 5 && index > 1 && index&(index-1) != 0 && index&(index+1) != 0 && choose(&seed, 1<<pars) > 12 {
				continue
			}
			n := oneFailing(pars, index)
			if agreeAll(t, n) || len(impl.StuckLinks(n)) == 0 {
				t.Fatalf("CorrectByParsing = true of%s", describeNet(n))
			}
			checkEnd(t, n, firedSomehow(t, n, &seed), false)
		}
	}
}

// Nets of all kinds, correct or not: those that are written out, those at the limits, and others in any order. Some are not correct
// although all their links can be fired.
func TestParsingVerdictsOfNets(t *testing.T) {
	seed, found := uint64(204), map[[2]bool]int{}
	for _, n := range parsedNets() {
		correct := checkParsing(t, n)
		if agreeAll(t, n) != correct {
			t.Fatalf("CorrectByParsing = %v of%s", !correct, describeNet(n))
		}
		all := checkEnd(t, n, firedSomehow(t, n, &seed), correct)
		found[[2]bool{all, correct}]++
	}
	if found[[2]bool{true, true}] < 60 || found[[2]bool{true, false}] < 50 || found[[2]bool{false, false}] < 300 {
		t.Fatal("too few nets", found)
	}
}

// Every net that links make of two axioms is correct if its links are those of a proof, and otherwise not. Whatever ready link is fired
// each time, the end is the same.
func TestParsingVerdictsOfAllNetsOfTwoAxioms(t *testing.T) {
	seed, visited, found := uint64(205), 0, map[bool]int{}
	for _, forms := range [][]tree{{leaf(1)}, {leaf(1), leaf(1)}, {leaf(1), leaf(2)}} {
		joinedInAllWays(axioms(forms...), func(n impl.Net) {
			correct := agreeAll(t, n)
			if found[correct]++; correct != hasProof(n) {
				t.Fatalf("CorrectByParsing = %v although there is a proof or none, of%s", correct, describeNet(n))
			}
			if visited++; visited%3 == 0 {
				other := mixed(n, &seed)
				if checkParsing(t, n) != correct || checkParsing(t, other) != correct {
					t.Fatalf("CorrectByParsing = %v of other numbers, of%s", !correct, describeNet(n))
				}
				eachEnd(t, other, func(fired []int64) { checkEnd(t, other, fired, correct) })
			}
		})
	}
	if visited < 3000 || found[true] < 500 || found[false] < 800 {
		t.Fatal("too few nets", visited, found)
	}
}

// Nets with up to twelve links, in any order: whatever ready link is fired each time, all links of a correct net are fired into one part,
// and those of a net that is not correct never. Orders of such a net can be stuck at different links, also at more of them.
func TestParsingInEveryOrder(t *testing.T) {
	seed, found, stuck := uint64(206), map[bool]int{}, map[int]int{}
	for range 1200 {
		n := smallGrownNet(&seed)
		correct := agreeAll(t, n)
		if found[correct]++; correct != hasProof(n) {
			t.Fatalf("CorrectByParsing = %v of%s", correct, describeNet(n))
		}
		lengths, ends := map[int]bool{}, 0
		eachEnd(t, n, func(fired []int64) {
			checkEnd(t, n, fired, correct)
			lengths[len(fired)] = true
			ends++
		})
		if correct && ends != 1 {
			t.Fatalf("a correct net is stuck at some links, of%s", describeNet(n))
		}
		if ends > 1 {
			stuck[len(lengths)]++
		}
	}
	if found[true] < 80 || found[false] < 400 || stuck[1] < 50 || stuck[2] < 5 {
		t.Fatal("too few nets", found, stuck)
	}
}

// Two correct nets side by side are two parts, although all their links are fired. A tensor or a cut between them makes them one correct
// net, and one within either of them is stuck. A par between them is stuck.
func TestParsingOfJoinedNets(t *testing.T) {
	found := map[int64]map[bool]int{cut: {}, tensor: {}, par: {}}
	eachTwoCorrectNets(func(a, b, both impl.Net) {
		if impl.CorrectByParsing(both) || len(impl.StuckLinks(both)) > 0 || !impl.CorrectByParsing(a) || !impl.CorrectByParsing(b) {
			t.Fatalf("CorrectByParsing of two nets:%s", describeNet(both))
		}
		eachLinked(both, func(kind, i, j int64, n impl.Net) {
			between := (i < int64(len(a.Concl))) != (j < int64(len(a.Concl)))
			var stuck []int64
			if between == (kind == par) {
				stuck = []int64{int64(len(both.Links))}
			}
			if got := impl.StuckLinks(n); !slices.Equal(got, stuck) || impl.CorrectByParsing(n) != (between && kind != par) {
				t.Fatalf("StuckLinks = %v after a link of the kind %d, of%s", got, kind, describeNet(n))
			}
			found[kind][between]++
		})
	})
	for _, kind := range []int64{cut, tensor, par} {
		if found[kind][true] < 200 || found[kind][false] < 50 {
			t.Fatal("too few links", found)
		}
	}
}

// A par of two conclusions of a correct net makes a correct net, and a tensor or a cut of them is stuck.
func TestParsingOfLinksWithinNets(t *testing.T) {
	found := map[int64]int{}
	for _, a := range correctNets() {
		eachLinked(a, func(kind, _, _ int64, n impl.Net) {
			if got := impl.CorrectByParsing(n); got != (kind == par) || (len(impl.StuckLinks(n)) == 0) != got {
				t.Fatalf("CorrectByParsing = %v after a link of the kind %d, of%s", got, kind, describeNet(n))
			}
			found[kind]++
		})
	}
	if found[cut] < 50 || found[tensor] < 1000 || found[par] < 1000 {
		t.Fatal("too few links", found)
	}
}

// The numbers of the wires and links, and the order of the conclusions, do not change the verdict.
func TestParsingOfRenumberedNets(t *testing.T) {
	seed, found := uint64(207), map[bool]int{}
	for _, n := range append(parsedNets(), correctNets()...) {
		correct := impl.CorrectByParsing(n)
		for range 3 {
			other := mixed(n, &seed)
			if found[correct]++; impl.CorrectByParsing(other) != correct || agreeAll(t, other) != correct {
				t.Fatalf("CorrectByParsing = %v of other numbers, of%s", !correct, describeNet(n))
			}
		}
	}
	if found[true] < 1000 || found[false] < 1000 {
		t.Fatal("too few nets", found)
	}
}
