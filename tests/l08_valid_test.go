package tests

import (
	"slices"
	"testing"

	"loop.example/g00872/impl"
)

func TestConstantsOfNets(t *testing.T) {
	got := []int64{impl.MaxWires, impl.MaxLinks, impl.LkAx, impl.LkCut, impl.LkTensor, impl.LkPar}
	wantList(t, "MaxWires, MaxLinks, LkAx, LkCut, LkTensor, LkPar", got, []int64{48, 48, ax, cut, tensor, par})
}

// The nets of the tests are valid, and every function reads them as expected.
func TestValidNets(t *testing.T) {
	kinds, sizes, conclusions := map[int64]int{}, map[int]int{}, map[int]int{}
	for _, n := range someNets() {
		if !checkNet(t, n) {
			t.Fatalf("a net of the tests is not valid:%s", describeNet(n))
		}
		for _, l := range n.Links {
			kinds[l.Kind]++
		}
		sizes[len(n.Wires)]++
		conclusions[len(n.Concl)]++
	}
	if kinds[ax] < 2000 || kinds[cut] < 200 || kinds[tensor] < 400 || kinds[par] < 400 || sizes[0] < 5 || sizes[48] < 30 || conclusions[0] < 5 || conclusions[1] < 20 || conclusions[2] < 50 {
		t.Fatal("too few nets", kinds, sizes, conclusions)
	}
}

// Every wire has a source, and a target unless it is a conclusion; the links name the wire where the table has its outputs and inputs.
func TestEndsOfWires(t *testing.T) {
	targets, open := 0, 0
	for _, n := range someNets() {
		for w := range n.Wires {
			wire := int64(w)
			source, target := impl.SourceOf(n, wire), impl.TargetOf(n, wire)
			if source < 0 || source >= int64(len(n.Links)) || !slices.Contains(wiresIn(n.Links[source], 'o'), wire) {
				t.Fatalf("SourceOf(%d) = %d of%s", wire, source, describeNet(n))
			}
			if slices.Contains(n.Concl, wire) {
				if open++; target != -1 {
					t.Fatalf("TargetOf the conclusion %d = %d of%s", wire, target, describeNet(n))
				}
			} else if targets++; target < 0 || target >= int64(len(n.Links)) || !slices.Contains(wiresIn(n.Links[target], 'i'), wire) {
				t.Fatalf("TargetOf(%d) = %d of%s", wire, target, describeNet(n))
			}
		}
	}
	if targets < 1000 || open < 1000 {
		t.Fatal("too few wires", targets, open)
	}
}

// The ends of the wires of one net, written out.
func TestEndsWrittenOut(t *testing.T) {
	n := netOf("(A*A), (~A|~A), A, A, ~A, ~A, A, ~A; tensor 2 3 0, ax 6 7, par 5 4 1, ax 4 2, cut 0 1, ax 3 5; 7 6")
	for wire, ends := range [][2]int64{{0, 4}, {2, 4}, {3, 0}, {5, 0}, {3, 2}, {5, 2}, {1, -1}, {1, -1}, {-1, -1}} {
		if source, target := impl.SourceOf(n, int64(wire)), impl.TargetOf(n, int64(wire)); source != ends[0] || target != ends[1] {
			t.Fatal("SourceOf, TargetOf", wire, source, target)
		}
	}
	for kind, want := range map[int64][]int64{ax: {1, 3, 5}, cut: {4}, tensor: {0}, par: {2}, 0: nil, 5: nil, -1: nil} {
		wantList(t, "LinksOfKind", impl.LinksOfKind(n, kind), want)
	}
	if q, ok := impl.ConclusionSeq(n); !ok || impl.SeqText(q) != "~A, A" {
		t.Fatal("ConclusionSeq", q, ok)
	}
}

// Every link is of one kind, and the links of all kinds together are all links.
func TestLinksOfKinds(t *testing.T) {
	for _, n := range someNets() {
		var all []int64
		for _, kind := range allKinds {
			list := impl.LinksOfKind(n, kind)
			for at, k := range list {
				if n.Links[k].Kind != kind || at > 0 && list[at-1] >= k {
					t.Fatalf("LinksOfKind of %d = %v of%s", kind, list, describeNet(n))
				}
			}
			all = append(all, list...)
		}
		wantList(t, "the links of all kinds", slices.Sorted(slices.Values(all)), inOrder(len(n.Links)))
		for _, kind := range oddKinds {
			if list := impl.LinksOfKind(n, kind); len(list) > 0 {
				t.Fatalf("LinksOfKind of %d = %v", kind, list)
			}
		}
	}
}

func TestExamplesOfNets(t *testing.T) {
	for _, empty := range []impl.Net{{}, {Wires: [][]int64{}, Links: []impl.Link{}, Concl: []int64{}}} {
		if q, ok := impl.ConclusionSeq(empty); !impl.ValidNet(empty) || !ok || len(q.Forms) > 0 {
			t.Fatal("ValidNet or ConclusionSeq of the empty net", q.Forms, ok)
		}
		if impl.SourceOf(empty, 0) != -1 || impl.TargetOf(empty, 0) != -1 || len(impl.LinksOfKind(empty, ax)) > 0 {
			t.Fatal("the empty net has a wire or a link")
		}
	}
	for _, single := range []string{"A; ; 0", "A; ; ", "(A*~A); ; 0", "A; ax 0 0; 0"} {
		if impl.ValidNet(netOf(single)) {
			t.Fatal("a net of one wire is valid", single)
		}
	}
	for text, want := range map[string]string{
		"A, ~A; ax 0 1; 0 1": "A, ~A", "A, ~A; ax 0 1; 1 0": "~A, A", "A, ~A, B, ~B; ax 0 1, ax 2 3; 3 1 0 2": "~B, ~A, A, B", "(A*B), (~A|~B); ax 0 1; 1 0": "(~A|~B), (A*B)",
		"A, ~A, (A|~A); ax 0 1, par 0 1 2; 2": "(A|~A)", "A, ~A; ax 0 1, cut 0 1; ": "", "A, ~A, B, ~B, (A*B), (~A|~B); ax 0 1, ax 2 3, tensor 0 2 4, par 1 3 5; 5 4": "(~A|~B), (A*B)",
	} {
		if q, ok := impl.ConclusionSeq(netOf(text)); !ok || impl.SeqText(q) != want {
			t.Fatal("ConclusionSeq", text, impl.SeqText(q), ok)
		}
	}
}

// wantNoNet fails if a function has a result for a net that is not valid.
func wantNoNet(t *testing.T, n impl.Net) {
	t.Helper()
	if isNet(n) || checkNet(t, n) {
		t.Fatalf("a net is valid:%s", describeNet(n))
	}
	one := netOf("A, ~A; ax 0 1; 0 1")
	places := [][]int64{nil, {0}, inOrder(len(n.Wires)), inOrder(len(n.Links))}
	for _, wires := range places {
		for _, links := range places {
			if checkRenumbered(t, n, wires, links) {
				t.Fatalf("RenumberNet has a result for%s", describeNet(n))
			}
		}
	}
	for _, kind := range allKinds {
		if checkLinked(t, n, kind, 0, 1) || checkLinked(t, n, kind, 1, 0) {
			t.Fatalf("LinkNet has a result for%s", describeNet(n))
		}
	}
	if checkUnion(t, n, one) || checkUnion(t, one, n) || checkUnion(t, n, n) || checkUnion(t, n, impl.Net{}) || checkUnion(t, impl.Net{}, n) {
		t.Fatalf("UnionNet has a result for%s", describeNet(n))
	}
}

// No function has a result for a net that is not valid.
func TestNoNets(t *testing.T) {
	for _, n := range brokenNets() {
		wantNoNet(t, n)
	}
}

// Every place of a net is changed.
func TestChangedNets(t *testing.T) {
	found := map[bool]int{}
	nets := smallNets(6)
	for _, text := range netTexts {
		changedNets(netOf(text), func(n impl.Net) { found[checkNet(t, n)]++ })
	}
	for _, original := range nets[len(netTexts)-2:] {
		visited := 0
		changedNets(original, func(n impl.Net) {
			if visited++; impl.ValidNet(n) != isNet(n) {
				t.Fatalf("ValidNet = %v of%s", impl.ValidNet(n), describeNet(n))
			}
			if visited%7 == 0 {
				found[checkNet(t, n)]++
			}
		})
	}
	if found[true] < 200 || found[false] < 10000 {
		t.Fatal("too few nets", found)
	}
}

// eachLink calls visit with every link of the kinds from lowest to highest with fields from first to last.
func eachLink(lowest, highest, first, last int64, visit func(impl.Link)) {
	for kind := lowest; kind <= highest; kind++ {
		for a := first; a <= last; a++ {
			for b := first; b <= last; b++ {
				for c := first; c <= last; c++ {
					visit(impl.Link{Kind: kind, A: a, B: b, C: c})
				}
			}
		}
	}
}

// countValid compares ValidNet with the expectation for a net with each of the lists as its conclusions, and returns how often it is valid.
func countValid(t *testing.T, n impl.Net, lists [][]int64) int {
	t.Helper()
	count := 0
	for _, list := range lists {
		n.Concl = list
		valid := isNet(n)
		if impl.ValidNet(n) != valid {
			t.Fatalf("ValidNet = %v of%s", !valid, describeNet(n))
		}
		if valid {
			count++
		}
	}
	return count
}

// Every net of one link, or of an axiom and one more link, between the wires of a few nets; and how many of them are valid.
func TestSmallNets(t *testing.T) {
	for text, want := range map[string]int{
		"A, ~A; ; ": 4, "A, ~A; ax 0 1; ": 2, "A, A; ; ": 0, "A, ~A, (A|~A); ax 0 1; ": 1, "(A*~A), ~A, A; ax 1 2; ": 1, "~A, A, ~A; ax 2 1; ": 0, "(A*A), (~A|~A); ; ": 4,
	} {
		n := netOf(text)
		last := int64(len(n.Wires))
		lists := [][]int64{nil, {0, 1, 2}, {2, 0, 1}, {0, 1, 0}, {2, 2, 2}, {0, 0, 1, 1}}
		for a := int64(-1); a <= last; a++ {
			lists = append(lists, []int64{a})
			for b := int64(-1); b <= last; b++ {
				lists = append(lists, []int64{a, b})
			}
		}
		n.Links = append(n.Links, impl.Link{})
		count := 0
		eachLink(-1, 5, -1, last, func(l impl.Link) {
			n.Links[len(n.Links)-1] = l
			count += countValid(t, n, lists)
		})
		if count != want {
			t.Fatalf("%d valid nets with one more link than %q", count, text)
		}
	}
}

// Every net of two links between the wires of a few nets.
func TestSmallNetsOfTwoLinks(t *testing.T) {
	for text, want := range map[string]int{"A, ~A; ; ": 8, "A, ~A, (A|~A); ; ": 4, "(~A*A), A, ~A; ; ": 4, "A, ~A, (A|A); ; ": 0} {
		n := netOf(text)
		n.Links = make([]impl.Link, 2)
		count := 0
		eachLink(1, 4, 0, int64(len(n.Wires))-1, func(first impl.Link) {
			eachLink(1, 4, 0, int64(len(n.Wires))-1, func(second impl.Link) {
				n.Links[0], n.Links[1] = first, second
				count += countValid(t, n, [][]int64{nil, {0}, {1}, {2}, {0, 1}})
			})
		})
		if count != want {
			t.Fatalf("%d valid nets with two links more than %q", count, text)
		}
	}
}

// A valid net can have more conclusions, or more symbols in them, than a valid sequent.
func TestLimitsOfConclusionsOfNets(t *testing.T) {
	for count := range 25 {
		n := axioms(slices.Repeat([]tree{leaf(1)}, count)...)
		q, ok := impl.ConclusionSeq(n)
		if !checkNet(t, n) || ok != (2*count <= 10) || !ok && len(q.Forms) > 0 || ok && len(q.Forms) != 2*count {
			t.Fatal("ConclusionSeq of axioms", count, ok)
		}
	}
	seed := uint64(83)
	for first := 1; first <= 23; first += 2 {
		for second := 1; second <= 23; second += 2 {
			n := axioms(multTree(first, &seed), multTree(second, &seed))
			q, ok := impl.ConclusionSeq(n)
			if !checkNet(t, n) || ok != (2*(first+second) <= 60) || !ok && len(q.Forms) > 0 {
				t.Fatal("ConclusionSeq of long formulas", first, second, ok)
			}
		}
	}
	// Nine, ten and eleven conclusions.
	n := axioms(slices.Repeat([]tree{leaf(1)}, 6)...)
	for want := 12; want >= 1; want-- {
		q, ok := impl.ConclusionSeq(n)
		if ok != (want <= 10) || len(n.Concl) != want || ok && len(q.Forms) != want {
			t.Fatal("ConclusionSeq", want, ok)
		}
		n, _ = wantLinked(n, par, 0, 1)
	}
}

// A net of exactly 48 wires or links is valid.
func TestLimitsOfNets(t *testing.T) {
	wires, links := map[int]int{}, map[int]int{}
	for _, n := range fullNets() {
		if !checkNet(t, n) {
			t.Fatalf("a net at the limits is not valid:%s", describeNet(n))
		}
		wires[len(n.Wires)]++
		links[len(n.Links)]++
	}
	if wires[47] < 2 || wires[48] < 20 || links[48] < 1 || links[47] < 1 {
		t.Fatal("too few nets at the limits", wires, links)
	}
	for _, n := range overfullNets() {
		if len(n.Wires) <= 48 && len(n.Links) <= 48 && len(n.Concl) < 1000 || checkNet(t, n) {
			t.Fatalf("a net beyond the limits is valid:%s", describeNet(n))
		}
	}
}
