package tests

import (
	"slices"
	"testing"

	"loop.example/g00872/impl"
)

// guardedNet returns a net with filled spare capacity behind its lists and each formula, and a function that reports whether anything changed.
func guardedNet(n impl.Net) (impl.Net, func() bool) {
	wires, changedWires := guardedSeq(n.Wires)
	concl, changedConcl := guarded(n.Concl)
	links, changedLinks := guardedLinks(n.Links)
	return impl.Net{Wires: wires.Forms, Links: links, Concl: concl}, func() bool { return changedWires() || changedConcl() || changedLinks() }
}

func guardedLinks(list []impl.Link) ([]impl.Link, func() bool) {
	whole := append(slices.Clone(list), slices.Repeat([]impl.Link{{Kind: spare, A: spare, B: spare, C: spare}}, 9)...)
	before := slices.Clone(whole)
	return whole[:len(list)], func() bool { return !slices.Equal(whole, before) }
}

// packedNet returns a net whose formulas and conclusions stand one behind the other in one list, so that each is the spare capacity of the one before it.
func packedNet(n impl.Net) (impl.Net, func() bool) {
	all, changedAll := packedSeq(append(slices.Clone(n.Wires), n.Concl))
	links, changedLinks := guardedLinks(n.Links)
	last := len(n.Wires)
	return impl.Net{Wires: all.Forms[:last], Links: links, Concl: all.Forms[last]}, func() bool { return changedAll() || changedLinks() }
}

// overwriteNet changes all of a net, and the spare capacity behind its lists.
func overwriteNet(n impl.Net) {
	for _, f := range n.Wires {
		overwrite(f)
	}
	overwriteLists(n)
	overwriteLinks(n)
	overwrite(n.Concl)
}

func overwriteLists(n impl.Net) {
	for whole, at := n.Wires[:cap(n.Wires)], 0; at < cap(n.Wires); at++ {
		whole[at] = []int64{spare}
	}
}

func overwriteLinks(n impl.Net) {
	for whole, at := n.Links[:cap(n.Links)], 0; at < cap(n.Links); at++ {
		whole[at] = impl.Link{Kind: spare, A: spare, B: spare, C: spare}
	}
}

// checkNetUnshared overwrites each slice of what a call returns; nothing else changes then.
func checkNetUnshared(t *testing.T, what string, call func() (impl.Net, bool), changed func() bool) bool {
	t.Helper()
	first, ok := call()
	want := copyNet(first)
	if changed() {
		t.Fatalf("%s changes an argument, with the result%s", what, describeNet(want))
	}
	check := func(part string, overwrite func(*impl.Net)) {
		t.Helper()
		got, _ := call()
		overwrite(&got)
		if changed() || !sameNet(got, want) {
			t.Fatalf("%s shares the memory of %s, in%s", what, part, describeNet(want))
		}
	}
	for w, f := range want.Wires {
		check("a formula", func(got *impl.Net) { overwrite(got.Wires[w]); got.Wires[w] = f })
	}
	check("the wires", func(got *impl.Net) { overwriteLists(*got); got.Wires = want.Wires })
	check("the links", func(got *impl.Net) { overwriteLinks(*got); got.Links = want.Links })
	check("the conclusions", func(got *impl.Net) { overwrite(got.Concl); got.Concl = want.Concl })
	overwriteNet(first)
	if again, _ := call(); changed() || !sameNet(again, want) {
		t.Fatalf("%s keeps a result or shares memory with an argument:%s", what, describeNet(want))
	}
	return ok
}

// netsOfMemory are valid and other nets for the tests of memory.
func netsOfMemory() []impl.Net {
	out := append(smallNets(12), axioms(slices.Repeat([]tree{leaf(1)}, 24)...))
	return append(out, brokenNets()...)
}

// The functions that read a net change nothing, and what they return is new memory.
func TestReadNetsUnchanged(t *testing.T) {
	for _, plain := range netsOfMemory() {
		for _, guard := range []func(impl.Net) (impl.Net, func() bool){guardedNet, packedNet} {
			n, changed := guard(plain)
			if checkNet(t, n); changed() {
				t.Fatalf("an argument is changed:%s", describeNet(plain))
			}
			checkSeqUnshared(t, "ConclusionSeq", func(impl.Seq) impl.Seq { q, _ := impl.ConclusionSeq(n); return q }, impl.Seq{}, changed)
			for _, kind := range append(allKinds, 0) {
				overwrite(impl.LinksOfKind(n, kind))
			}
			if checkNet(t, n); changed() {
				t.Fatalf("LinksOfKind keeps its result or shares memory with its argument:%s", describeNet(plain))
			}
			q, _ := impl.ConclusionSeq(n)
			want := copyOf(q)
			overwriteNet(n)
			wantForms(t, "ConclusionSeq after a change of its argument", q, want)
		}
	}
}

// No operation changes an argument, and no result shares memory with one or within itself.
func TestNetOperationsUnshared(t *testing.T) {
	results := map[string]int{}
	nets, seed := netsOfMemory(), uint64(89)
	for k, plain := range nets {
		for _, guard := range []func(impl.Net) (impl.Net, func() bool){guardedNet, packedNet} {
			n, changedNet := guard(plain)
			other, changedOther := guardedNet(nets[k*7%len(nets)])
			wires, changedWires := guarded(somePlaces(len(plain.Wires), &seed))
			links, changedLinks := guarded(somePlaces(len(plain.Links), &seed))
			changed := func() bool { return changedNet() || changedOther() || changedWires() || changedLinks() }
			calls := map[string]func() (impl.Net, bool){
				"UnionNet":                 func() (impl.Net, bool) { return impl.UnionNet(n, other) },
				"UnionNet of one net":      func() (impl.Net, bool) { return impl.UnionNet(n, n) },
				"UnionNet the other way":   func() (impl.Net, bool) { return impl.UnionNet(other, n) },
				"LinkNet of a cut":         func() (impl.Net, bool) { return impl.LinkNet(n, cut, 0, 1) },
				"LinkNet of a tensor":      func() (impl.Net, bool) { return impl.LinkNet(n, tensor, 1, 0) },
				"LinkNet of a par":         func() (impl.Net, bool) { return impl.LinkNet(n, par, 0, 1) },
				"LinkNet of the last ones": func() (impl.Net, bool) { return impl.LinkNet(n, par, int64(len(n.Concl))-1, int64(len(n.Concl))-2) },
				"RenumberNet":              func() (impl.Net, bool) { return impl.RenumberNet(n, wires, links) },
				"RenumberNet of one list":  func() (impl.Net, bool) { return impl.RenumberNet(n, wires, wires) },
			}
			got, want := map[string]impl.Net{}, map[string]impl.Net{}
			for what, call := range calls {
				if checkNetUnshared(t, what, call, changed) {
					results[what]++
				}
				got[what], _ = call()
				want[what] = copyNet(got[what])
			}
			overwriteNet(n)
			overwriteNet(other)
			overwrite(wires)
			overwrite(links)
			for what := range calls {
				if !sameNet(got[what], want[what]) {
					t.Fatalf("the result of %s changes with an argument:%s", what, describeNet(want[what]))
				}
			}
		}
	}
	for what, least := range map[string]int{
		"UnionNet": 50, "UnionNet of one net": 200, "UnionNet the other way": 50, "LinkNet of a cut": 50, "LinkNet of a tensor": 100, "LinkNet of a par": 100, "LinkNet of the last ones": 100,
		"RenumberNet": 200, "RenumberNet of one list": 5,
	} {
		if results[what] < least {
			t.Fatal("too few results", what, results)
		}
	}
}

// AxiomNet does not change its argument, and its formulas have memory of their own.
func TestAxiomNetsUnshared(t *testing.T) {
	seed := uint64(90)
	lists := invalidLists()
	for n := range 60 {
		lists = append(lists, multTree(1+2*(n%12), &seed).list())
	}
	for _, plain := range lists {
		f, changed := guarded(plain)
		checkNetUnshared(t, "AxiomNet", func() (impl.Net, bool) { return impl.AxiomNet(f) }, changed)
		got, _ := impl.AxiomNet(f)
		want := copyNet(got)
		overwrite(f)
		if !sameNet(got, want) {
			t.Fatalf("the result of AxiomNet changes with its argument:%s", describeNet(want))
		}
	}
}

// One list serves as several wires.
func TestNetsWithOneList(t *testing.T) {
	a, changedA := guarded([]int64{1})
	b, changedB := guarded([]int64{-1})
	changed := func() bool { return changedA() || changedB() }
	n := impl.Net{Wires: [][]int64{a, b, a, b, a, b}, Links: []impl.Link{{Kind: ax, A: 0, B: 1}, {Kind: ax, A: 4, B: 3}, {Kind: ax, A: 2, B: 5}}, Concl: []int64{5, 4, 3, 2, 1, 0}}
	for what, call := range map[string]func() (impl.Net, bool){
		"UnionNet":    func() (impl.Net, bool) { return impl.UnionNet(n, n) },
		"LinkNet":     func() (impl.Net, bool) { return impl.LinkNet(n, tensor, 1, 3) },
		"RenumberNet": func() (impl.Net, bool) { return impl.RenumberNet(n, []int64{2, 1, 0, 5, 4, 3}, []int64{2, 0, 1}) },
	} {
		if !checkNetUnshared(t, what, call, changed) {
			t.Fatal("no result of", what)
		}
	}
	checkSeqUnshared(t, "ConclusionSeq", func(impl.Seq) impl.Seq { q, _ := impl.ConclusionSeq(n); return q }, impl.Seq{}, changed)
	numbers, changedNumbers := guarded([]int64{1, 0})
	closed := netOf("A, ~A; ax 0 1, cut 0 1; ")
	closed.Concl = numbers[:0]
	call := func() (impl.Net, bool) { return impl.RenumberNet(closed, numbers, numbers) }
	if !checkNetUnshared(t, "RenumberNet with one list", call, changedNumbers) {
		t.Fatal("no result of RenumberNet with one list")
	}
}
