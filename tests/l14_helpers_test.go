package tests

import (
	"math"
	"slices"
	"testing"

	"loop.example/g00872/impl"
)

// wantTerminal is TerminalLinks as the tests see it: no arc begins at a terminal link.
func wantTerminal(n impl.Net) []int64 {
	if !isNet(n) {
		return nil
	}
	arcs := allArcs(n)
	isInside := func(link int64) bool {
		return slices.ContainsFunc(arcs, func(arc impl.Arc) bool { return arc.From == link })
	}
	return slices.DeleteFunc(inOrder(len(n.Links)), isInside)
}

// wantHalves returns the links, as bits, that are connected with the producers of A and of B after a link has been removed, and whether the
// link is a splitting link of the net.
func wantHalves(n impl.Net, link int64) (first, second uint64, ok bool) {
	if !slices.Contains(wantTerminal(n), link) {
		return 0, 0, false
	}
	l, arcs := n.Links[link], allArcs(n)
	if l.Kind != tensor && l.Kind != cut {
		return 0, 0, false
	}
	first, second = partAbove(n, arcs, link, l.A), partAbove(n, arcs, link, l.B)
	rest := (uint64(1)<<len(n.Links) - 1) &^ (1 << link)
	return first, second, first&second == 0 && first|second == rest
}

// wantSplitting is SplittingLinks as the tests see it.
func wantSplitting(n impl.Net) []int64 {
	isOther := func(link int64) bool {
		_, _, ok := wantHalves(n, link)
		return !ok
	}
	return slices.DeleteFunc(wantTerminal(n), isOther)
}

// wantKept returns the net of some links of a valid net, given as bits, and of their outputs. Of the conclusions it has those that it can
// have.
func wantKept(n impl.Net, links uint64, conclusions []int64) impl.Net {
	var out impl.Net
	numbers := map[int64]int64{}
	for wire := range int64(len(n.Wires)) {
		if links>>wantEnd(n, wire, 'o')&1 == 1 {
			numbers[wire] = int64(len(out.Wires))
			out.Wires = append(out.Wires, slices.Clone(n.Wires[wire]))
		}
	}
	for k, l := range n.Links {
		if links>>k&1 == 1 {
			kept := impl.Link{Kind: l.Kind, A: numbers[l.A], B: numbers[l.B]}
			if linkRoles[l.Kind][2] == 'o' {
				kept.C = numbers[l.C]
			}
			out.Links = append(out.Links, kept)
		}
	}
	for _, wire := range conclusions {
		if number, ok := numbers[wire]; ok {
			out.Concl = append(out.Concl, number)
		}
	}
	return out
}

// wantSplit is SplitNet as the tests see it.
func wantSplit(n impl.Net, link int64) (impl.Net, impl.Net, bool) {
	first, second, ok := wantHalves(n, link)
	if !ok {
		return impl.Net{}, impl.Net{}, false
	}
	return wantKept(n, first, append(slices.Clone(n.Concl), n.Links[link].A)), wantKept(n, second, append(slices.Clone(n.Concl), n.Links[link].B)), true
}

// wantRemoved is RemovePar as the tests see it.
func wantRemoved(n impl.Net, link int64) (impl.Net, bool) {
	if !slices.Contains(wantTerminal(n), link) || n.Links[link].Kind != par {
		return impl.Net{}, false
	}
	var conclusions []int64
	for _, wire := range n.Concl {
		if wire == n.Links[link].C {
			conclusions = append(conclusions, n.Links[link].A, n.Links[link].B)
		} else {
			conclusions = append(conclusions, wire)
		}
	}
	return wantKept(n, (uint64(1)<<len(n.Links)-1)&^(1<<link), conclusions), true
}

// wantLast is LastLink as the tests see it.
func wantLast(n impl.Net) int64 {
	for _, link := range wantTerminal(n) {
		if n.Links[link].Kind == par {
			return link
		}
	}
	for _, link := range wantSplitting(n) {
		return link
	}
	if isNet(n) && len(n.Links) == 1 && n.Links[0].Kind == ax {
		return 0
	}
	return -1
}

// wantSteps is SequentialisedBy as the tests see it. The last step of a part is found among the links that have been fired before, and the
// wires at the positions of a step from the steps before it.
func wantSteps(n impl.Net, fired []int64) ([]impl.Step, bool) {
	v, ok := wantFired(n, fired)
	if !ok || !v.isWhole() {
		return nil, false
	}
	var list []impl.Step
	begin := func(k int64) placed[int64] { return placed[int64]{n.Links[fired[k]].A, n.Links[fired[k]].B} }
	wiresOf := func(k int64) []int64 {
		return alongProof(list, k, begin, func(k, _, _ int64) int64 { return n.Links[fired[k]].C })
	}
	now := viewOf(n)
	for _, link := range fired {
		l, numbers := n.Links[link], now.numbers()
		premiseOf := func(wire int64) (int64, int64) {
			last := int64(len(list)) - 1
			for numbers[fired[last]] != numbers[now.from[wire]] {
				last--
			}
			return last, int64(slices.Index(wiresOf(last), wire))
		}
		s := step(l.Kind, -1, -1, 0, 0)
		if l.Kind == ax {
			s.Form = slices.Clone(n.Wires[l.A])
		} else {
			s.B, s.J = premiseOf(l.B)
			s.A, s.I = premiseOf(l.A)
		}
		if l.Kind == par {
			s.B = -1
		}
		list, now = append(list, s), now.after(link)
	}
	for k, wire := range n.Concl {
		last := int64(len(list)) - 1
		if wires := wiresOf(last); wires[k] != wire {
			list = append(list, step(swap, last, -1, int64(k), int64(slices.Index(wires, wire))))
		}
	}
	if !isProof(list) {
		return nil, false
	}
	return list, true
}

// createdBy returns the numbers of the wires and the links of a net if they are created in the order of a firing sequence of all links.
func createdBy(n impl.Net, fired []int64) (wires, links []int64) {
	var outputs []int64
	for _, link := range fired {
		outputs = append(outputs, wiresIn(n.Links[link], 'o')...)
	}
	return inverseOf(outputs), inverseOf(fired)
}

// checkSteps compares SequentialisedBy with the expectation, and reports whether there is a proof. It must be one of the net.
func checkSteps(t *testing.T, n impl.Net, fired []int64) bool {
	t.Helper()
	got, ok := impl.SequentialisedBy(n, fired)
	want, wantOk := wantSteps(n, fired)
	if ok != wantOk || !sameSteps(got, want) {
		t.Fatalf("SequentialisedBy(%v) = %v with%s\ninstead of %v with%s\nof%s", shortened(fired), ok, describe(got), wantOk, describe(want), describeNet(n))
	}
	if ok {
		checkProofOf(t, n, fired, got)
	}
	return ok
}

// checkProofOf fails unless a list is a valid proof with the conclusion of a net, and has this net again up to the numbers of the wires and
// links, which follow from the firing sequence.
func checkProofOf(t *testing.T, n impl.Net, fired []int64, list []impl.Step) {
	t.Helper()
	conclusion, ok := impl.ConclusionSeq(n)
	if !ok || !impl.ValidProof(list) || !impl.Proves(list, conclusion) || !isProof(list) || !sameForms(endOfProof(list), conclusion.Forms) {
		t.Fatalf("no proof of %v, %v:%s\nof%s", conclusion, ok, describe(list), describeNet(n))
	}
	wires, links := createdBy(n, fired)
	want, wantOk := impl.RenumberNet(n, wires, links)
	if got, ok := impl.NetOf(list); !ok || !wantOk || !sameNet(got, want) {
		t.Fatalf("NetOf of the proof = %v with%s\ninstead of %v with%s\nof%s", ok, describeNet(got), wantOk, describeNet(want), describeNet(n))
	}
}

// checkSequential compares Sequentialised of a net with the expectation, and SequentialisedBy for both orders. It reports for how many of
// these orders there is a proof.
func checkSequential(t *testing.T, n impl.Net) int {
	t.Helper()
	found := 0
	first, last := impl.FiringOrder(n), impl.LastFiringOrder(n)
	for _, fired := range [][]int64{first, last} {
		if checkSteps(t, n, fired) {
			found++
		}
	}
	byFirst, firstOk := impl.SequentialisedBy(n, first)
	if got, ok := impl.Sequentialised(n); ok != firstOk || !sameSteps(got, byFirst) {
		t.Fatalf("Sequentialised = %v with%s\ninstead of %v with%s\nof%s", ok, describe(got), firstOk, describe(byFirst), describeNet(n))
	}
	return found
}

// checkNoSteps fails if there is a proof of a net for a list.
func checkNoSteps(t *testing.T, n impl.Net, fired []int64) {
	t.Helper()
	if list, ok := impl.SequentialisedBy(n, fired); ok || len(list) > 0 {
		t.Fatalf("SequentialisedBy(%v) = %v with%s\nof%s", shortened(fired), ok, describe(list), describeNet(n))
	}
}

// checkSplit compares SplitNet and RemovePar of a link with the expectation, and reports which of them has a result. The results must be
// valid nets.
func checkSplit(t *testing.T, n impl.Net, link int64) (splits, removes bool) {
	t.Helper()
	first, second, ok := impl.SplitNet(n, link)
	wantA, wantB, wantOk := wantSplit(n, link)
	wantNet(t, first, ok, wantA, wantOk, "SplitNet of", n, link, "first net")
	wantNet(t, second, ok, wantB, wantOk, "SplitNet of", n, link, "second net")
	rest, restOk := impl.RemovePar(n, link)
	want, wantRest := wantRemoved(n, link)
	wantNet(t, rest, restOk, want, wantRest, "RemovePar of", n, link)
	return ok, restOk
}

// checkEnds compares the functions of chapter 14 that look for last links with the expectation, and SplitNet and RemovePar of every link. It
// returns LastLink.
func checkEnds(t *testing.T, n impl.Net) int64 {
	t.Helper()
	if got, want := impl.TerminalLinks(n), wantTerminal(n); !slices.Equal(got, want) {
		t.Fatalf("TerminalLinks = %v, want %v of%s", got, want, describeNet(n))
	}
	if got, want := impl.SplittingLinks(n), wantSplitting(n); !slices.Equal(got, want) {
		t.Fatalf("SplittingLinks = %v, want %v of%s", got, want, describeNet(n))
	}
	last := impl.LastLink(n)
	if want := wantLast(n); last != want {
		t.Fatalf("LastLink = %d, want %d of%s", last, want, describeNet(n))
	}
	for link := range int64(len(n.Links)) {
		checkSplit(t, n, link)
	}
	checkNoLinks(t, n)
	return last
}

// checkNoLinks fails if SplitNet or RemovePar has a result for a link that no net has.
func checkNoLinks(t *testing.T, n impl.Net) {
	t.Helper()
	for _, link := range append([]int64{int64(len(n.Links)), int64(len(n.Links)) + 1}, oddLinks...) {
		checkNoSplit(t, n, link)
	}
}

// checkNoSplit fails if SplitNet or RemovePar has a result for a link.
func checkNoSplit(t *testing.T, n impl.Net, link int64) {
	t.Helper()
	first, second, ok := impl.SplitNet(n, link)
	rest, restOk := impl.RemovePar(n, link)
	for _, got := range []impl.Net{first, second, rest} {
		if ok || restOk || !sameNet(got, impl.Net{}) {
			t.Fatalf("SplitNet, RemovePar of %d = %v, %v with%s\nof%s", link, ok, restOk, describeNet(got), describeNet(n))
		}
	}
}

// checkNoSequential fails if a function of chapter 14 has a result for what is no valid net.
func checkNoSequential(t *testing.T, n impl.Net) {
	t.Helper()
	for _, fired := range [][]int64{nil, {}, {0}, {0, 1}, {1, 0}, {-1}, {math.MaxInt64}, {math.MinInt64}} {
		checkNoSteps(t, n, fired)
	}
	for _, link := range []int64{0, 1, 2, -1, int64(len(n.Links)) - 1, int64(len(n.Links)), math.MaxInt64, math.MinInt64} {
		checkNoSplit(t, n, link)
	}
	list, ok := impl.Sequentialised(n)
	terminal, splitting := impl.TerminalLinks(n), impl.SplittingLinks(n)
	if ok || len(list) > 0 || len(terminal) > 0 || len(splitting) > 0 || impl.LastLink(n) != -1 || impl.IsSequentialisable(n) {
		t.Fatalf("Sequentialised, TerminalLinks, SplittingLinks, LastLink = %v, %v, %v, %d of%s", ok, terminal, splitting, impl.LastLink(n), describeNet(n))
	}
}

// checkRejoined fails unless the nets of SplitNet, or the net of RemovePar, become the net again by the link that has been removed, up to the
// numbers of the wires and links and the order of the conclusions. It reports whether the link can be removed.
func checkRejoined(t *testing.T, n impl.Net, link int64) bool {
	t.Helper()
	l := n.Links[link]
	var joined impl.Net
	ok := false
	if first, second, splits := impl.SplitNet(n, link); splits {
		both, bothOk := impl.UnionNet(first, second)
		joined, ok = impl.LinkNet(both, l.Kind, int64(len(first.Concl))-1, int64(len(both.Concl))-1)
		ok = ok && bothOk
	} else if rest, removes := impl.RemovePar(n, link); removes {
		at := int64(slices.Index(n.Concl, l.C))
		joined, ok = impl.LinkNet(rest, par, at, at+1)
	} else {
		return false
	}
	if !ok || len(joined.Concl) != len(n.Concl) {
		t.Fatalf("the link %d cannot be put back into%s", link, describeNet(n))
	}
	wires, links := numbersWithout(n, link)
	renumbered, _ := impl.RenumberNet(n, wires, links)
	if !sameForms(joined.Wires, renumbered.Wires) || !slices.Equal(joined.Links, renumbered.Links) || !slices.Equal(slices.Sorted(slices.Values(joined.Concl)), slices.Sorted(slices.Values(renumbered.Concl))) {
		t.Fatalf("the link %d is put back as%s\ninstead of%s", link, describeNet(joined), describeNet(renumbered))
	}
	return true
}

// numbersWithout returns the numbers of the wires and links of a net if a link and its output come last, and before them, unless it is a par,
// those that are connected with its input A before the others.
func numbersWithout(n impl.Net, link int64) (wires, links []int64) {
	first := partAbove(n, allArcs(n), link, n.Links[link].A)
	if n.Links[link].Kind == par {
		first = math.MaxUint64
	}
	rank := func(link, removed int64) int {
		switch {
		case link == removed:
			return 2
		case first>>link&1 == 1:
			return 0
		}
		return 1
	}
	wires, links = inOrder(len(n.Wires)), inOrder(len(n.Links))
	slices.SortStableFunc(links, func(a, b int64) int { return rank(a, link) - rank(b, link) })
	slices.SortStableFunc(wires, func(a, b int64) int {
		return rank(wantEnd(n, a, 'o'), link) - rank(wantEnd(n, b, 'o'), link)
	})
	return inverseOf(wires), inverseOf(links)
}

// eachArrangement calls visit with the net for every order of its conclusions.
func eachArrangement(n impl.Net, visit func(impl.Net)) {
	var arrange func(rest, done []int64)
	arrange = func(rest, done []int64) {
		if len(rest) == 0 {
			out := copyNet(n)
			out.Concl = slices.Clone(done)
			visit(out)
		}
		for at, wire := range rest {
			arrange(slices.Delete(slices.Clone(rest), at, at+1), append(slices.Clone(done), wire))
		}
	}
	arrange(n.Concl, nil)
}

// eachWhole calls visit with every firing sequence of all links of a valid net.
func eachWhole(n impl.Net, visit func([]int64)) {
	eachFiring(viewOf(n), func(v view) {
		if len(v.fired) == len(n.Links) {
			visit(v.fired)
		}
	})
}

// tensorRow returns a correct net of axioms of the atom 1 with a tensor between each and the next one. It has one more conclusion than
// axioms.
func tensorRow(count int) impl.Net {
	n := axioms(slices.Repeat([]tree{leaf(1)}, count)...)
	for k := range int64(count - 1) {
		n, _ = joinedAt(n, tensor, 2*k+1, 2*k+2)
	}
	return n
}
