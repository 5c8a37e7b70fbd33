package tests

import (
	"fmt"
	"math"
	"slices"
	"testing"

	"loop.example/g00872/impl"
)

// leavesCase is a net, whether its axioms are atomic, the wires at the leaves, and the mates of the leaves, if it has any; written out.
type leavesCase struct {
	net    string
	atomic bool
	leaves []int64
	mates  []int64
	ok     bool
}

func TestLeavesWrittenOut(t *testing.T) {
	for _, c := range []leavesCase{
		{"; ; ", true, nil, nil, true}, {"A, ~A; ax 0 1; 0 1", true, []int64{0, 1}, []int64{1, 0}, true}, {"A, ~A; ax 0 1; 1 0", true, []int64{1, 0}, []int64{1, 0}, true}, {"A, ~A; ax 1 0; 0 1", true, []int64{0, 1}, []int64{1, 0}, true},
		{"A, ~A, (A|~A); ax 0 1, par 0 1 2; 2", true, []int64{0, 1}, []int64{1, 0}, true}, {"(~A*A), A, ~A; tensor 2 1 0, ax 2 1; 0", true, []int64{2, 1}, []int64{1, 0}, true},
		{"A, ~A, B, ~B; ax 0 1, ax 2 3; 3 1 0 2", true, []int64{3, 1, 0, 2}, []int64{3, 2, 1, 0}, true}, {"A, B, ~B, ~A; ax 0 3, ax 2 1; 1 0 3 2", true, []int64{1, 0, 3, 2}, []int64{3, 2, 1, 0}, true},
		{"A, ~A, B, ~B, (A*B), (~A|~B); ax 0 1, ax 2 3, tensor 0 2 4, par 1 3 5; 5 4", true, []int64{1, 3, 0, 2}, []int64{2, 3, 0, 1}, true},
		{"((A|~A)|B), (A|~A), A, ~A, B, ~B; par 1 4 0, par 2 3 1, ax 2 3, ax 5 4; 5 0", true, []int64{5, 2, 3, 4}, []int64{3, 2, 1, 0}, true},
		{"(B|(A|~A)), (A|~A), A, ~A, B, ~B; par 4 1 0, par 2 3 1, ax 2 3, ax 5 4; 0 5", true, []int64{4, 2, 3, 5}, []int64{3, 2, 1, 0}, true},
		{"A, ~A, A, ~A, ((A*A)|~A), (A*A); ax 1 2, ax 3 0, par 5 3 4, tensor 2 0 5; 1 4", true, []int64{1, 2, 0, 3}, []int64{1, 0, 3, 2}, true},
		// cuts
		{"A, ~A; ax 0 1, cut 0 1; ", true, nil, nil, false}, {"A, ~A, A, ~A; ax 0 1, ax 2 3, cut 1 2; 0 3", true, []int64{0, 3}, nil, false}, {"A, ~A, A, ~A; ax 0 1, ax 2 3, cut 1 0; 3 2", true, []int64{3, 2}, nil, false},
		{"A, ~A, B, ~B, (A*B), (~A|~B); ax 0 1, ax 2 3, tensor 0 2 4, par 1 3 5, cut 4 5; ", true, nil, nil, false}, {"A, ~A, A, ~A, (A|~A); ax 0 1, ax 2 3, cut 1 2, par 0 3 4; 4", true, []int64{0, 3}, nil, false},
		{"A, ~A, (A|~A), (~A*A), A, ~A, B, ~B; ax 0 1, par 0 1 2, ax 4 5, tensor 5 4 3, cut 2 3, ax 7 6; 7 6", true, []int64{7, 6}, nil, false},
		// axioms of compound formulas
		{"(A*B), (~A|~B); ax 0 1; 0 1", false, []int64{0, 1}, nil, false}, {"(A*B), (~A|~B), ((A*B)|(~A|~B)); ax 0 1, par 0 1 2; 2", false, []int64{0, 1}, nil, false},
		{"A, ~A, (A|A), (~A*~A); ax 0 1, ax 3 2; 2 0 3 1", false, []int64{2, 0, 3, 1}, nil, false}, {"A, ~A, (A|A), (~A*~A), ((~A*~A)*A); ax 3 2, ax 0 1, tensor 3 0 4; 4 2 1", false, []int64{3, 0, 2, 1}, nil, false},
		{"(A*B), (~A|~B); ax 0 1, cut 1 0; ", false, nil, nil, false}, {"(A|B), (~A*~B), (A|B), (~A*~B); ax 0 1, ax 2 3, cut 0 3; 1 2", false, []int64{1, 2}, nil, false},
	} {
		n := netOf(c.net)
		mates, ok := impl.MatesOf(n)
		if impl.AtomicNet(n) != c.atomic || !slices.Equal(impl.LeafWires(n), c.leaves) || ok != c.ok || !slices.Equal(mates, c.mates) {
			t.Fatalf("AtomicNet, LeafWires, MatesOf = %v, %v, %v, %v of %q", impl.AtomicNet(n), impl.LeafWires(n), mates, ok, c.net)
		}
		if checkLeaves(t, n) != c.ok {
			t.Fatalf("the tests do not know the leaves of %q", c.net)
		}
	}
}

// Nets of every kind: with and without cuts, axioms of compound formulas, and conclusions.
func TestLeavesOfSomeNets(t *testing.T) {
	atomic, found, counts := map[bool]int{}, map[bool]int{}, map[int]int{}
	for _, n := range append(someNets(), someAtomicNets()...) {
		found[checkLeaves(t, n)]++
		atomic[impl.AtomicNet(n)]++
		counts[len(impl.LeafWires(n))]++
		for _, wire := range impl.LeafWires(n) {
			if n.Links[impl.SourceOf(n, wire)].Kind != ax {
				t.Fatalf("LeafWires has the wire %d of%s", wire, describeNet(n))
			}
		}
	}
	if atomic[true] < 500 || atomic[false] < 100 || found[true] < 200 || found[false] < 300 || counts[0] < 10 || counts[2] < 30 || counts[8] < 20 || counts[48] < 1 {
		t.Fatal("too few nets", atomic, found, counts)
	}
}

// In a cut-free net with atomic axioms the formulas of the leaf wires are the leaves of the conclusions, and every output of an axiom is
// one of them; mates are dual, and outputs of one axiom.
func TestLeavesOfAtomicNets(t *testing.T) {
	found := 0
	for _, n := range someAtomicNets() {
		leaves, atoms, outputs := impl.LeafWires(n), []int64(nil), []int64(nil)
		for _, wire := range n.Concl {
			atoms = append(atoms, impl.LeavesOf(n.Wires[wire])...)
		}
		for _, k := range impl.LinksOfKind(n, ax) {
			outputs = append(outputs, n.Links[k].A, n.Links[k].B)
		}
		mates, ok := impl.MatesOf(n)
		if len(leaves) != len(atoms) || !slices.Equal(slices.Sorted(slices.Values(leaves)), slices.Sorted(slices.Values(outputs))) || ok != (len(n.Concl) <= 10) || !impl.AtomicNet(n) {
			t.Fatalf("LeafWires = %v and MatesOf = %v, %v of%s", leaves, mates, ok, describeNet(n))
		}
		for at, wire := range leaves {
			if !slices.Equal(n.Wires[wire], atoms[at:at+1]) || ok && (atoms[mates[at]] != -atoms[at] || mates[mates[at]] != int64(at) || impl.SourceOf(n, leaves[mates[at]]) != impl.SourceOf(n, wire)) {
				t.Fatalf("LeafWires = %v and MatesOf = %v of%s", leaves, mates, describeNet(n))
			}
			found++
		}
	}
	if found < 2000 {
		t.Fatal("too few leaves", found)
	}
}

// numbersBetween returns the numbers of the wires and links of b that those of a become, where both are cut-free nets with the same trees.
func numbersBetween(a, b impl.Net) (wires, links []int64) {
	wires, links = make([]int64, len(a.Wires)), make([]int64, len(a.Links))
	var follow func(wire, other int64)
	follow = func(wire, other int64) {
		k, m := wantEnd(a, wire, 'o'), wantEnd(b, other, 'o')
		wires[wire], links[k] = other, m
		if a.Links[k].Kind != ax {
			follow(a.Links[k].A, b.Links[m].A)
			follow(a.Links[k].B, b.Links[m].B)
		}
	}
	for at, wire := range a.Concl {
		follow(wire, b.Concl[at])
	}
	return wires, links
}

// ordered returns the net with the greater output of each axiom as B.
func ordered(n impl.Net) impl.Net {
	out := copyNet(n)
	for k, l := range out.Links {
		if l.Kind == ax {
			out.Links[k].A, out.Links[k].B = min(l.A, l.B), max(l.A, l.B)
		}
	}
	return out
}

// leavesInOrder is the outline of a net in which the axioms are numbered from left to right, and the left output of each is a.
func leavesInOrder(n impl.Net) string {
	var seen []int64
	return leafPattern.ReplaceAllStringFunc(impl.NetOutline(n), func(name string) string {
		k := linkNamed(name)
		at := slices.Index(seen, k)
		if at < 0 {
			seen = append(seen, k)
			return fmt.Sprint("a", len(seen)-1)
		}
		return fmt.Sprint("b", at)
	})
}

// A cut-free net with atomic axioms is determined by its sequent and its mates: LinkedNet of both is the net again, up to the numbers of
// wires and links and the order of the outputs of axioms.
func TestNetFromItsMates(t *testing.T) {
	seed, found, others := uint64(107), 0, 0
	for _, n := range append(someAtomicNets(), someNets()...) {
		mates, ok := impl.MatesOf(n)
		if !ok {
			continue
		}
		q, _ := impl.ConclusionSeq(n)
		got, gotOk := impl.LinkedNet(q, mates)
		if !gotOk || !impl.IsMates(q, mates) || len(got.Wires) != len(n.Wires) || impl.NetOutline(got) != leavesInOrder(n) {
			t.Fatalf("LinkedNet of %v and %v = %v with%s\ninstead of%s", q.Forms, mates, gotOk, describeNet(got), describeNet(n))
		}
		wires, links := numbersBetween(n, got)
		if renumbered, ok := impl.RenumberNet(n, wires, links); !ok || !sameNet(ordered(renumbered), ordered(got)) {
			t.Fatalf("LinkedNet is not the net again, but%s\ninstead of%s", describeNet(got), describeNet(renumbered))
		}
		if back, backOk := impl.MatesOf(got); !backOk || !slices.Equal(back, mates) {
			t.Fatalf("MatesOf = %v, %v of the net of %v and %v", back, backOk, q.Forms, mates)
		}
		// Other numbers, and other outputs A and B of the axioms, do not change the mates.
		for range 2 {
			other, _ := impl.RenumberNet(flipped(n, &seed), somePlaces(len(n.Wires), &seed), somePlaces(len(n.Links), &seed))
			if same, sameOk := impl.MatesOf(other); !sameOk || !slices.Equal(same, mates) {
				t.Fatalf("MatesOf = %v, %v, want %v of%s", same, sameOk, mates, describeNet(other))
			}
			others++
		}
		checkMates(t, q, mates)
		found++
	}
	if found < 200 || others < 400 {
		t.Fatal("too few nets", found, others)
	}
}

// The net of a cut-free proof with axioms of atoms is determined by the conclusion and the mates, too.
func TestMatesOfProofs(t *testing.T) {
	found := map[bool]int{}
	for _, list := range someMultProofs() {
		whole, ok := impl.ExpandedProof(list)
		n, netOk := impl.NetOf(whole)
		if !ok || !netOk {
			continue
		}
		if !impl.AtomicNet(n) || impl.AtomicNet(n) != impl.AtomicAxioms(whole) {
			t.Fatalf("AtomicNet = false of the net of%s", describe(whole))
		}
		ok = checkLeaves(t, n)
		if found[ok]++; ok != (impl.RuleCounts(whole)[cut-1] == 0) {
			t.Fatalf("MatesOf = %v of the net of%s", ok, describe(whole))
		}
		if mates, _ := impl.MatesOf(n); ok {
			conclusion, _ := impl.ConclusionOf(whole)
			if got, gotOk := impl.LinkedNet(conclusion, mates); !gotOk || impl.NetOutline(got) != leavesInOrder(n) {
				t.Fatalf("LinkedNet = %v with%s\nof%s", gotOk, describeNet(got), describe(whole))
			}
		}
	}
	if found[true] < 50 || found[false] < 50 {
		t.Fatal("too few proofs", found)
	}
}

// A net can have more conclusions, or more symbols in them, than a valid sequent: then it has leaves, but no mates.
func TestLeavesOfManyConclusions(t *testing.T) {
	for count := range 25 {
		n := axioms(slices.Repeat([]tree{leaf(2)}, count)...)
		mates, ok := impl.MatesOf(n)
		if len(impl.LeafWires(n)) != 2*count || ok != (count <= 5) || ok && len(mates) != 2*count || !ok && len(mates) > 0 || checkLeaves(t, n) != ok {
			t.Fatal("MatesOf", count, mates, ok)
		}
	}
	// Twelve conclusions, then eleven, ten, and so on to one.
	n := axioms(slices.Repeat([]tree{leaf(1)}, 6)...)
	for want := 12; want >= 1; want-- {
		mates, ok := impl.MatesOf(n)
		if len(n.Concl) != want || ok != (want <= 10) || ok && len(mates) != 12 || len(impl.LeafWires(n)) != 12 || checkLeaves(t, n) != ok {
			t.Fatal("MatesOf", want, mates, ok)
		}
		n, _ = wantLinked(n, []int64{tensor, par}[want%2], 0, 1)
	}
	seed := uint64(108)
	for size := 1; size <= 23; size += 2 {
		long := axioms(multTree(size, &seed), multTree(23, &seed))
		if got := impl.LeafWires(long); !slices.Equal(got, []int64{0, 1, 2, 3}) || impl.AtomicNet(long) || checkLeaves(t, long) {
			t.Fatal("LeafWires of long formulas", size, got)
		}
	}
}

// A net of exactly 48 wires or 48 links.
func TestLeavesOfGreatestNets(t *testing.T) {
	open, links := 0, 0
	for _, n := range fullNets() {
		checkLeaves(t, n)
		if len(n.Links) == 48 {
			if links++; len(impl.LeafWires(n)) > 0 || !impl.AtomicNet(n) {
				t.Fatalf("LeafWires = %v of%s", impl.LeafWires(n), describeNet(n))
			}
		}
	}
	seed := uint64(109)
	for _, count := range []int{13, 14, 15, 16, 17} {
		n := axioms(slices.Repeat([]tree{leaf(1), leaf(-2)}, 9)[:count]...)
		for tries := 0; len(n.Wires) < 48 && tries < 3000; tries++ {
			n = joinedOnce(n, []int64{tensor, par}[choose(&seed, 2)], &seed)
		}
		mates, ok := impl.MatesOf(n)
		if checkLeaves(t, n); ok != (len(n.Concl) <= 10) || ok && len(mates) != 2*count {
			t.Fatalf("MatesOf = %v, %v of%s", mates, ok, describeNet(n))
		}
		if len(n.Wires) == 48 && ok {
			open++
		}
	}
	if open < 2 || links < 1 {
		t.Fatal("too few nets", open, links)
	}
	if text := impl.LeafWires(longestNet()); len(text) > 0 || impl.AtomicNet(longestNet()) {
		t.Fatal("LeafWires of the longest net", text)
	}
}

// Nets that are not valid have no leaves and no mates.
func TestLeavesOfNoNets(t *testing.T) {
	for _, n := range brokenNets() {
		if mates, ok := impl.MatesOf(n); checkLeaves(t, n) || ok || len(mates) > 0 || len(impl.LeafWires(n)) > 0 || impl.AtomicNet(n) {
			t.Fatalf("MatesOf = %v, %v of%s", mates, ok, describeNet(n))
		}
	}
	found := map[bool]int{}
	for _, text := range netTexts {
		changedNets(netOf(text), func(n impl.Net) { found[checkLeaves(t, n)]++ })
	}
	if found[true] < 50 || found[false] < 5000 {
		t.Fatal("too few nets", found)
	}
}

// Lists of many elements and extreme numbers: every function returns.
func TestLeavesOfGreatNets(t *testing.T) {
	const many = 1 << 18
	one := netOf("A, ~A; ax 0 1; 0 1")
	long := slices.Repeat([]int64{11}, many)
	for _, n := range []impl.Net{
		{Wires: make([][]int64, many)}, {Links: make([]impl.Link, many)}, {Concl: make([]int64, many)}, {Wires: slices.Repeat(one.Wires, many)}, {Wires: [][]int64{nil, nil}, Links: one.Links, Concl: one.Concl},
		{Wires: one.Wires, Links: slices.Repeat(one.Links, many), Concl: one.Concl}, {Wires: one.Wires, Links: one.Links, Concl: slices.Repeat(one.Concl, many)},
		{Wires: [][]int64{long, long}, Links: one.Links, Concl: one.Concl}, {Wires: [][]int64{bangs(many)}, Concl: []int64{0}},
		{Wires: slices.Repeat(one.Wires, many), Links: slices.Repeat(one.Links, many), Concl: slices.Repeat(one.Concl, many)},
		{Wires: one.Wires, Links: []impl.Link{{Kind: math.MaxInt64, A: math.MinInt64, B: math.MaxInt64, C: math.MinInt64}}, Concl: one.Concl},
		{Wires: one.Wires, Links: []impl.Link{{Kind: ax, A: math.MinInt64, B: math.MaxInt64}}, Concl: one.Concl}, {Wires: one.Wires, Links: one.Links, Concl: []int64{math.MinInt64, math.MaxInt64}},
	} {
		if mates, ok := impl.MatesOf(n); ok || len(mates) > 0 || len(impl.LeafWires(n)) > 0 || impl.AtomicNet(n) {
			t.Fatal("leaves of a great net")
		}
	}
}
