package tests

import (
	"slices"
	"testing"

	"loop.example/g00872/impl"
)

// sequential is a net, written out, with a firing sequence and the text of its proof.
type sequential struct{ net, fired, proof string }

// More nets with a tensor of two axioms: with the axioms in the opposite order, and with A in the second axiom.
const (
	tensorTurned = "A, ~A, B, ~B, (A*B); tensor 0 2 4, ax 2 3, ax 0 1; 1 3 4"
	tensorBack   = "A, ~A, B, ~B, (~B*A); ax 0 1, ax 2 3, tensor 3 0 4; 1 2 4"
	pathOfPars   = "A, ~A, B, ~B, (A*B), (~A|(A*B)), (~B|(~A|(A*B))); ax 0 1, ax 2 3, tensor 0 2 4, par 1 4 5, par 3 5 6; 6"
	parsBackward = "A, ~A, B, ~B, (A*B), ((A*B)|~A), (((A*B)|~A)|~B); ax 0 1, ax 2 3, tensor 0 2 4, par 4 1 5, par 5 3 6; 6"
)

var sequentials = []sequential{
	{"A, ~A; ax 0 1; 0 1", "0", "ax A\n"}, {"A, ~A; ax 0 1; 1 0", "0", "ax A\nswap 0 0 1\n"}, {"A, ~A; ax 1 0; 1 0", "0", "ax ~A\n"}, {"~H, H; ax 1 0; 0 1", "0", "ax H\nswap 0 0 1\n"},
	{"(A*~B), (~A|B); ax 0 1; 0 1", "0", "ax (A*~B)\n"}, {"(A*~B), (~A|B); ax 1 0; 0 1", "0", "ax (~A|B)\nswap 0 0 1\n"}, {parOfAxiom, "0 1", "ax A\npar 0 0 1\n"}, {"A, ~A, (~A|A); ax 0 1, par 1 0 2; 2", "0 1", "ax A\npar 0 1 0\n"},
	{"(A|~A), A, ~A; par 1 2 0, ax 2 1; 0", "1 0", "ax ~A\npar 0 1 0\n"}, {"(A*B), (~A|~B), ((A*B)|(~A|~B)); ax 0 1, par 0 1 2; 2", "0 1", "ax (A*B)\npar 0 0 1\n"},
	// The premises come in the order of A and B, whichever of them comes first in the list.
	{tensorOfTwo, "0 1 2", "ax A\nax B\ntensor 0 1 0 0\n"}, {tensorOfTwo, "1 0 2", "ax B\nax A\ntensor 1 0 0 0\n"}, {tensorTurned, "1 2 0", "ax B\nax A\ntensor 1 0 0 0\n"}, {tensorTurned, "2 1 0", "ax A\nax B\ntensor 0 1 0 0\n"},
	{tensorBack, "0 1 2", "ax A\nax B\ntensor 1 0 1 0\nswap 2 0 1\n"}, {tensorBack, "1 0 2", "ax B\nax A\ntensor 0 1 1 0\nswap 2 0 1\n"},
	{cutOfTwo, "0 2 1", "ax A\nax A\ncut 0 1 1 0\n"}, {cutOfTwo, "2 0 1", "ax A\nax A\ncut 1 0 1 0\n"}, {"A, ~A, A, ~A; ax 0 1, cut 2 1, ax 2 3; 0 3", "0 2 1", "ax A\nax A\ncut 1 0 0 1\nswap 2 0 1\n"},
	{"A, ~A, A, ~A; ax 0 3, ax 2 1, cut 1 0; 3 2", "0 1 2", "ax A\nax A\ncut 1 0 1 0\nswap 2 0 1\n"}, {"(A|B), (~A*~B), (A|B), (~A*~B); ax 0 1, ax 2 3, cut 0 3; 2 1", "1 0 2", "ax (A|B)\nax (A|B)\ncut 1 0 0 1\nswap 2 0 1\n"},
	// The last step of a part is not the step before.
	{joinedTwice, "0 1 2 3", "ax A\nax B\ntensor 0 1 0 0\npar 2 0 1\n"}, {joinedTwice, "1 0 2 3", "ax B\nax A\ntensor 1 0 0 0\npar 2 0 1\n"}, {tensorsFirst, "1 2 4 0 3", "ax C\nax B\nax A\ntensor 2 1 0 0\ntensor 3 0 2 0\nswap 4 2 3\n"},
	{tensorsFirst, "4 2 1 0 3", "ax A\nax B\nax C\ntensor 0 1 0 0\ntensor 3 2 2 0\nswap 4 2 3\n"}, {tensorsFirst, "2 4 0 1 3", "ax B\nax A\ntensor 1 0 0 0\nax C\ntensor 2 3 2 0\nswap 4 2 3\n"}, {parBelowCut, "2 3 1 0", "ax A\nax A\ncut 1 0 1 0\npar 2 0 1\n"},
	{threeInARow, "0 1 2 3 4", "ax A\nax A\nax A\ncut 0 1 1 0\ncut 3 2 1 0\n"}, {threeInARow, "2 1 4 0 3", "ax A\nax A\ncut 1 0 1 0\nax A\ncut 3 2 1 0\n"}, {threeInARow, "0 1 3 2 4", "ax A\nax A\ncut 0 1 1 0\nax A\ncut 2 3 1 0\n"},
	{"A, ~A, (A|~A), B, ~B, ((A|~A)*B); ax 0 1, par 0 1 2, ax 3 4, tensor 2 3 5; 4 5", "2 0 1 3", "ax B\nax A\npar 1 0 1\ntensor 2 0 0 0\n"}, {"A, ~A, (A|~A), B, ~B, ((A|~A)*B); ax 0 1, par 0 1 2, ax 3 4, tensor 2 3 5; 5 4", "0 2 1 3", "ax A\nax B\npar 0 0 1\ntensor 2 1 0 0\nswap 3 0 1\n"},
	// The positions of a par change with those that are removed before it.
	{pathOfPars, "0 1 2 3 4", "ax A\nax B\ntensor 0 1 0 0\npar 2 0 2\npar 3 0 1\n"}, {parsBackward, "0 1 2 3 4", "ax A\nax B\ntensor 0 1 0 0\npar 2 2 0\npar 3 1 0\n"},
	{"A, ~A, B, ~B, C, ~C, (A*~B), (B*~C), (~A|(A*~B)); ax 0 1, ax 2 3, ax 4 5, tensor 0 3 6, tensor 2 5 7, par 1 6 8; 4 8 7", "2 1 4 0 3 5", "ax C\nax B\ntensor 1 0 0 1\nax A\ntensor 3 2 0 0\npar 4 0 3\nswap 5 1 2\n"},
	// The conclusions in every order.
	{"A, ~A, B, ~B, (A*B); ax 0 1, ax 2 3, tensor 0 2 4; 1 4 3", "0 1 2", "ax A\nax B\ntensor 0 1 0 0\nswap 2 1 2\n"}, {"A, ~A, B, ~B, (A*B); ax 0 1, ax 2 3, tensor 0 2 4; 3 1 4", "0 1 2", "ax A\nax B\ntensor 0 1 0 0\nswap 2 0 1\n"},
	{"A, ~A, B, ~B, (A*B); ax 0 1, ax 2 3, tensor 0 2 4; 3 4 1", "0 1 2", "ax A\nax B\ntensor 0 1 0 0\nswap 2 0 1\nswap 3 1 2\n"}, {"A, ~A, B, ~B, (A*B); ax 0 1, ax 2 3, tensor 0 2 4; 4 1 3", "0 1 2", "ax A\nax B\ntensor 0 1 0 0\nswap 2 0 2\nswap 3 1 2\n"},
	{"A, ~A, B, ~B, (A*B); ax 0 1, ax 2 3, tensor 0 2 4; 4 3 1", "0 1 2", "ax A\nax B\ntensor 0 1 0 0\nswap 2 0 2\n"},
	// Equal formulas are kept apart by their wires.
	{"A, ~A, A, ~A, (A*A); ax 0 1, ax 2 3, tensor 0 2 4; 3 1 4", "0 1 2", "ax A\nax A\ntensor 0 1 0 0\nswap 2 0 1\n"}, {"A, ~A, A, ~A, (A*A), (~A|~A); ax 0 1, ax 2 3, tensor 2 0 4, par 1 3 5; 5 4", "0 1 2 3", "ax A\nax A\ntensor 1 0 0 0\npar 2 1 0\nswap 3 0 1\n"},
	{"A, ~A, A, ~A, A, ~A, (A*A), (~A*A); ax 0 1, ax 2 3, ax 4 5, tensor 0 2 6, tensor 3 4 7; 5 1 7 6", "0 1 2 3 4", "ax A\nax A\nax A\ntensor 0 1 0 0\ntensor 3 2 1 0\nswap 4 0 2\nswap 5 1 2\nswap 6 2 3\n"},
}

func TestStepsWrittenOut(t *testing.T) {
	for _, c := range sequentials {
		n, fired, want := netOf(c.net), numbersOf(c.fired), mustReadProof(t, c.proof)
		if got, ok := impl.SequentialisedBy(n, fired); !ok || !sameSteps(got, want) {
			t.Fatalf("SequentialisedBy of %s and %s = %v with%s", c.net, c.fired, ok, describe(got))
		}
		if !checkSteps(t, n, fired) || checkSequential(t, n) != 2 {
			t.Fatal("the tests do not know the proof of", c.net, c.fired)
		}
	}
}

// The examples of the document.
func TestExamplesOfSequentialisation(t *testing.T) {
	one, exchanged := netOf("A, ~A; ax 0 1; 0 1"), netOf("A, ~A; ax 0 1; 1 0")
	if list, ok := impl.Sequentialised(one); !ok || !sameSteps(list, []impl.Step{axiom(1)}) {
		t.Fatal("Sequentialised", describe(list), ok)
	}
	if list, ok := impl.SequentialisedBy(exchanged, []int64{0}); !ok || !sameSteps(list, []impl.Step{axiom(1), step(swap, 0, -1, 0, 1)}) {
		t.Fatal("SequentialisedBy", describe(list), ok)
	}
	joined, split := netOf(parOfAxiom), netOf(tensorOfTwo)
	wantList(t, "TerminalLinks", impl.TerminalLinks(joined), []int64{1})
	wantList(t, "SplittingLinks", impl.SplittingLinks(split), []int64{2})
	first, second, ok := impl.SplitNet(split, 2)
	for _, part := range []impl.Net{first, second} {
		if !ok || len(part.Links) != 1 || part.Links[0] != (impl.Link{Kind: ax, A: 0, B: 1}) {
			t.Fatal("SplitNet", describeNet(part), ok)
		}
	}
	if rest, ok := impl.RemovePar(joined, 1); !ok || !sameNet(rest, one) {
		t.Fatal("RemovePar", describeNet(rest), ok)
	}
	if impl.LastLink(split) != 2 || impl.IsSequentialisable(netOf(tensorOfAxiom)) {
		t.Fatal("LastLink", impl.LastLink(split))
	}
}

// The net of the proof of a correct net is the net again, for the nets of multiplicative proofs of every kind, under other numbers, and for
// both orders and others. Where a proof would have too many steps or formulas, there is none.
func TestProofsOfNets(t *testing.T) {
	seed, found, kinds := uint64(221), map[int]int{}, map[int64]int{}
	check := func(n impl.Net) {
		if !impl.CorrectByParsing(n) {
			t.Fatalf("the net of a proof is not correct:%s", describeNet(n))
		}
		orders := checkSequential(t, n)
		if found[orders]++; orders == 2 {
			for _, l := range n.Links {
				kinds[l.Kind]++
			}
		}
		checkSteps(t, n, firedSomehow(t, n, &seed))
	}
	for at, list := range someMultProofs() {
		n, _ := wantNetOf(list)
		check(n)
		if at%2 == 0 {
			check(mixed(n, &seed))
			check(turned(n))
		}
	}
	if found[2] < 800 || found[1] < 10 || found[0] < 1 || kinds[ax] < 2000 || kinds[cut] < 400 || kinds[tensor] < 800 || kinds[par] < 500 {
		t.Fatal("too few nets", found, kinds)
	}
}

// The same for all correct nets of two axioms and many of three, for every firing sequence of all links and every order of the conclusions.
func TestProofsOfSmallNets(t *testing.T) {
	seed, nets, sequences, arranged := uint64(222), 0, 0, 0
	check := func(n impl.Net) {
		if nets++; checkSequential(t, n) != 2 {
			t.Fatalf("no proof of%s", describeNet(n))
		}
		if len(n.Links) <= 7 {
			eachWhole(n, func(fired []int64) {
				if sequences++; !checkSteps(t, n, fired) {
					t.Fatalf("no proof by %v of%s", fired, describeNet(n))
				}
			})
		}
		if len(n.Concl) <= 4 {
			eachArrangement(n, func(other impl.Net) {
				if arranged++; !checkSteps(t, other, impl.LastFiringOrder(other)) {
					t.Fatalf("no proof of%s", describeNet(other))
				}
			})
		}
	}
	for _, forms := range [][]tree{{leaf(1)}, {leaf(1), leaf(1)}, {leaf(1), leaf(-2)}} {
		joinedInAllWays(axioms(forms...), func(n impl.Net) {
			if hasProof(n) {
				check(mixed(n, &seed))
			}
		})
	}
	for _, n := range correctNets() {
		if len(n.Links) <= 7 {
			check(mixed(n, &seed))
		}
	}
	if nets < 600 || sequences < 2500 || arranged < 1200 {
		t.Fatal("too few nets", nets, sequences, arranged)
	}
}

// Cut-free nets of sequents and mates, of which most are not correct.
func TestProofsOfNetsOfSequents(t *testing.T) {
	found := map[bool]int{}
	for _, m := range someMated() {
		n, ok := impl.LinkedNet(m.q, m.mates)
		if !ok {
			continue
		}
		list, proved := impl.Sequentialised(n)
		if correct := impl.CorrectByContraction(n); proved && !correct || correct && checkSequential(t, n) == 0 {
			t.Fatalf("Sequentialised = %v of%s", proved, describeNet(n))
		}
		if found[proved]++; proved && !impl.Proves(list, m.q) {
			t.Fatalf("no proof of %s", describeMated(m))
		}
	}
	seed := uint64(223)
	for leaves := 1; leaves <= 12; leaves++ {
		n, _ := wantNetOf(leafyProof(leaves, &seed))
		q, _ := impl.ConclusionSeq(n)
		mates, _ := impl.MatesOf(n)
		linked, ok := impl.LinkedNet(q, mates)
		if leaves > 1 && (!ok || checkSequential(t, linked) != 2 || checkSequential(t, turned(linked)) != 2) {
			t.Fatalf("no proof of%s", describeNet(linked))
		}
	}
	if found[true] < 5 || found[false] < 150 {
		t.Fatal("too few nets", found)
	}
}

// Exactly the firing sequences of all links of a correct net yield a proof, among all lists of the numbers from -1 to the number of links.
func TestListsForProofs(t *testing.T) {
	found := map[bool]int{}
	for _, text := range []string{
		"; ; ", "A, ~A; ax 0 1; 1 0", parOfAxiom, tensorOfAxiom, cutOfAxiom, tensorOfTwo, cutOfTwo, parOfTwo, joinedTwice, "A, ~A, B, ~B; ax 0 1, ax 2 3; 0 1 2 3", "(A*B), A, ~A, B, ~B; tensor 1 3 0, ax 1 2, ax 3 4; 2 0 4",
	} {
		n := netOf(text)
		longest := min(len(n.Links)+1, 4)
		var extend func(list []int64)
		extend = func(list []int64) {
			found[checkSteps(t, n, list)]++
			for link := int64(-1); len(list) < longest && link <= int64(len(n.Links)); link++ {
				extend(append(slices.Clone(list), link))
			}
		}
		extend(nil)
	}
	if found[true] < 10 || found[false] < 3000 {
		t.Fatal("too few lists", found)
	}
}

// Every firing sequence of fewer links yields no proof, nor does one that is changed in one place, exchanged or continued, unless it is one
// of all links again.
func TestProofsByChangedSequences(t *testing.T) {
	seed, found := uint64(224), map[bool]int{}
	for _, n := range correctNets() {
		fired := firedSomehow(t, n, &seed)
		for k := range len(fired) {
			checkNoSteps(t, n, fired[:k])
			checkNoSteps(t, n, slices.Delete(slices.Clone(fired), k, k+1))
			checkNoSteps(t, n, append(slices.Clone(fired), fired[k]))
			for _, odd := range []int64{-1, int64(len(n.Links)), oddLinks[choose(&seed, uint64(len(oddLinks)))]} {
				checkNoSteps(t, n, slices.Replace(slices.Clone(fired), k, k+1, odd))
				checkNoSteps(t, n, slices.Insert(slices.Clone(fired), k, odd))
			}
			other := slices.Clone(fired)
			at := choose(&seed, uint64(len(fired)))
			other[k], other[at] = other[at], other[k]
			found[checkSteps(t, n, other)]++
		}
		checkNoSteps(t, n, nil)
	}
	if found[true] < 500 || found[false] < 500 {
		t.Fatal("too few lists", found)
	}
}

// Of a net that is not correct there is no proof, whatever is fired: with a cycle, with two parts, although all links are fired, or empty.
func TestNoProofsOfWrongNets(t *testing.T) {
	seed, found := uint64(225), map[bool]int{}
	check := func(n impl.Net) {
		fired := firedSomehow(t, n, &seed)
		all := len(fired) == len(n.Links)
		found[all]++
		for _, list := range [][]int64{fired, impl.FiringOrder(n), impl.LastFiringOrder(n), inOrder(len(n.Links)), append(slices.Clone(fired), stuckAfter(n, fired)...), nil} {
			checkNoSteps(t, n, list)
		}
		if list, ok := impl.Sequentialised(n); ok || len(list) > 0 {
			t.Fatalf("Sequentialised = %v with%s\nof%s", ok, describe(list), describeNet(n))
		}
	}
	for _, n := range parsedNets() {
		if !impl.CorrectByContraction(n) {
			check(n)
		}
	}
	for _, c := range slices.Concat(verdicts, []verdict{{"; ; ", 0, 0}}) {
		if c.index != -1 {
			check(netOf(c.net))
		}
	}
	eachTwoCorrectNets(func(_, _, both impl.Net) { check(both) })
	if found[true] < 300 || found[false] < 300 {
		t.Fatal("too few nets", found)
	}
}

// withConclusions returns the net with other conclusions.
func withConclusions(n impl.Net, conclusions ...int64) impl.Net {
	n.Concl = conclusions
	return n
}

// A proof has at most forty steps, the exchanges included.
func TestProofsOfFortySteps(t *testing.T) {
	for count := 1; count <= 24; count++ {
		chain := cutChain(count)
		last := int64(2*count - 1)
		if links := len(chain.Links); (checkSequential(t, chain) == 2) != (links <= 40) || (checkSequential(t, withConclusions(chain, last, 0)) == 2) != (links < 40) {
			t.Fatal("Sequentialised of a chain", count)
		}
		// The chain of 24 axioms has all wires that a net can have.
		if closed, _ := joinedAt(chain, par, 0, last); count < 24 && (checkSequential(t, closed) == 2) != (len(closed.Links) <= 40) {
			t.Fatal("Sequentialised of a chain and a par", count)
		}
	}
	// 39 links and up to two exchanges: a tensor is where a cut was.
	n := axioms(slices.Repeat([]tree{leaf(1)}, 20)...)
	for k := range int64(18) {
		n, _ = joinedAt(n, cut, 2*k+1, 2*k+2)
	}
	n, out := joinedAt(n, tensor, 37, 38)
	for _, c := range []struct {
		conclusions []int64
		steps       int
	}{{[]int64{0, 39, out}, 39}, {[]int64{39, 0, out}, 40}, {[]int64{0, out, 39}, 40}, {[]int64{out, 39, 0}, 40}, {[]int64{39, out, 0}, 0}, {[]int64{out, 0, 39}, 0}} {
		other := withConclusions(n, c.conclusions...)
		if list, ok := impl.Sequentialised(other); len(list) != c.steps || ok != (c.steps > 0) || !impl.CorrectByParsing(other) || checkSequential(t, other)/2 != min(c.steps, 1) {
			t.Fatal("Sequentialised of 39 links", c.conclusions, len(list), ok)
		}
	}
}

// A sequent has at most ten formulas, those of the steps before the last one included, so that it depends on the order whether there is a
// proof.
func TestProofsOfTenFormulas(t *testing.T) {
	for count := 1; count <= 12; count++ {
		if row := tensorRow(count); (checkSequential(t, row) == 2) != (count <= 9) || !impl.CorrectByParsing(row) {
			t.Fatal("Sequentialised of a row of axioms", count)
		}
	}
	// The par of two conclusions that are there from the third link on, as the first link or as the last one.
	n, _ := joinedAt(tensorRow(10), par, 0, 20)
	early := mixedLinks(n, append([]int64{19, 0, 1, 10}, slices.Concat(inOrder(10)[2:], inOrder(19)[11:])...))
	for _, c := range []struct {
		net         impl.Net
		first, last bool
	}{{n, false, false}, {early, true, false}, {turned(early), false, true}} {
		_, firstOk := impl.SequentialisedBy(c.net, impl.FiringOrder(c.net))
		_, lastOk := impl.SequentialisedBy(c.net, impl.LastFiringOrder(c.net))
		if _, ok := impl.Sequentialised(c.net); ok != c.first || firstOk != c.first || lastOk != c.last || !impl.CorrectByParsing(c.net) || !impl.IsSequentialisable(c.net) {
			t.Fatalf("Sequentialised = %v, %v, %v of%s", ok, firstOk, lastOk, describeNet(c.net))
		}
		checkSequential(t, c.net)
	}
	if !checkSteps(t, n, []int64{0, 1, 10, 19, 2, 11, 3, 12, 4, 13, 5, 14, 6, 15, 7, 16, 8, 17, 9, 18}) {
		t.Fatal("no proof although the par is fired early")
	}
}

// mixedLinks returns the net with the links of the list in its order.
func mixedLinks(n impl.Net, links []int64) impl.Net {
	out, _ := wantRenumbered(n, inOrder(len(n.Wires)), inverseOf(links))
	return out
}

// A sequent has at most 60 symbols, and a formula at most 24.
func TestProofsOfSixtySymbols(t *testing.T) {
	for _, c := range []struct {
		net string
		ok  bool
	}{
		{"A, ~A, B, ~B, (A*B); ax 0 1, ax 2 3, tensor 0 2 4; 1 3 4", true},
		{sixty("C"), true}, {sixty("(C*C)"), false},
	} {
		n := netOf(c.net)
		if (checkSequential(t, n) == 2) != c.ok || !isNet(n) || !impl.CorrectByParsing(n) || !impl.IsSequentialisable(n) {
			t.Fatalf("Sequentialised of%s", describeNet(n))
		}
	}
	// 61 symbols in three formulas.
	n := netOf(sixty("C"))
	more, _ := joinedAt(n, par, 3, 5)
	if q, ok := impl.ConclusionSeq(more); ok || len(q.Forms) > 0 || checkSequential(t, more) != 0 || !impl.IsSequentialisable(more) {
		t.Fatalf("Sequentialised of%s", describeNet(more))
	}
}

// sixty returns a net of axioms of a formula of nine symbols, of another one, and of one that makes its conclusions have 60 symbols in all if
// it has one symbol.
func sixty(last string) string {
	nine, dual := "((((A|A)|A)|A)|A)", "((((~A*~A)*~A)*~A)*~A)"
	eleven, other := "(((((B|B)|B)|B)|B)|"+last+")", "(((((~B*~B)*~B)*~B)*~B)*~"+last+")"
	if last != "C" {
		other = "(((((~B*~B)*~B)*~B)*~B)*(~C|~C))"
	}
	return nine + ", " + dual + ", " + nine + ", " + dual + ", " + eleven + ", " + other + ", (" + nine + "*" + nine + "), (" + dual + "*" + eleven + "); ax 0 1, ax 2 3, ax 4 5, tensor 0 2 6, tensor 1 4 7; 3 5 6 7"
}
