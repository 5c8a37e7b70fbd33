package tests

import (
	"slices"
	"sync"
	"testing"

	"loop.example/g00872/impl"
)

// NetOf changes no step, and its net shares no memory with one or within itself.
func TestNetsOfProofsUnshared(t *testing.T) {
	lists := append(someMultProofs()[:110], overfullProofs()[:4]...)
	lists = append(lists, listsOfSteps()[80:]...)
	found := map[bool]int{}
	for n, plain := range lists {
		if n > 60 && n%4 > 0 && len(plain) > 8 {
			continue
		}
		list, changed := guardedSteps(plain)
		found[checkNetUnshared(t, "NetOf", func() (impl.Net, bool) { return impl.NetOf(list) }, changed)]++
		if checkNetOf(t, list); changed() {
			t.Fatalf("MultiplicativeProof changes its argument:%s", describe(plain))
		}
		got, _ := impl.NetOf(list)
		want := copyNet(got)
		overwriteSteps(list)
		if !sameNet(got, want) {
			t.Fatalf("the net changes with the proof:%s", describe(plain))
		}
	}
	if found[true] < 60 || found[false] < 20 {
		t.Fatal("too few lists", found)
	}
}

// The steps of a proof may have one Form in common; the wires of the net do not.
func TestNetsOfStepsWithOneForm(t *testing.T) {
	form, changed := guarded([]int64{11, 1, -2})
	list := []impl.Step{axiom(), axiom(), axiom(), step(tensor, 0, 2, 0, 1), step(cut, 3, 1, 0, 0), step(par, 4, -1, 2, 0), step(swap, 5, -1, 0, 1)}
	for k := range 3 {
		list[k].Form = form
	}
	if !checkNetUnshared(t, "NetOf of steps with one Form", func() (impl.Net, bool) { return impl.NetOf(list) }, changed) || !checkNetOf(t, list) {
		t.Fatal("NetOf has no result")
	}
}

// LinkedNet and IsMates change neither the sequent nor the mates, and the net shares no memory with them or within itself.
func TestLinkedNetsUnshared(t *testing.T) {
	cases := append([]mated{{mustRead(t, "A, A, 1"), []int64{1, 0}}, {mustRead(t, "A, A"), []int64{1, 0}}, {mustRead(t, "A, ~A"), []int64{0, 1}}, {seqOf([]int64{11, 1}), nil}}, someMated()[:120]...)
	found := map[bool]int{}
	for _, m := range cases {
		for _, guard := range []func([][]int64) (impl.Seq, func() bool){guardedSeq, packedSeq} {
			q, changedSeq := guard(m.q.Forms)
			mates, changedMates := guarded(m.mates)
			changed := func() bool { return changedSeq() || changedMates() }
			found[checkNetUnshared(t, "LinkedNet", func() (impl.Net, bool) { return impl.LinkedNet(q, mates) }, changed)]++
			if checkMates(t, q, mates); changed() {
				t.Fatalf("IsMates changes an argument: %s", describeMated(m))
			}
			got, _ := impl.LinkedNet(q, mates)
			want := copyNet(got)
			overwrite(mates)
			for _, f := range q.Forms {
				overwrite(f)
			}
			if !sameNet(got, want) {
				t.Fatalf("the net changes with an argument: %s", describeMated(m))
			}
		}
	}
	if found[true] < 80 || found[false] != 8 {
		t.Fatal("too few sequents", found)
	}
	// One list serves as several formulas, and as the mates.
	f, changed := guarded([]int64{12, 1, -1})
	same := impl.Seq{Forms: [][]int64{f, f, f}}
	if !checkNetUnshared(t, "LinkedNet with one formula", func() (impl.Net, bool) { return impl.LinkedNet(same, []int64{3, 2, 1, 0, 5, 4}) }, changed) {
		t.Fatal("LinkedNet has no result")
	}
	impl.IsMates(same, f)
	if _, ok := impl.LinkedNet(same, f); ok || changed() {
		t.Fatal("LinkedNet with a formula as mates", ok)
	}
}

// AtomicNet, LeafWires and MatesOf change nothing, and their lists are new memory.
func TestLeavesUnshared(t *testing.T) {
	found := map[bool]int{}
	for _, plain := range append(netsOfMemory(), someAtomicNets()[:80]...) {
		for _, guard := range []func(impl.Net) (impl.Net, func() bool){guardedNet, packedNet} {
			n, changed := guard(plain)
			found[checkLeaves(t, n)]++
			overwrite(impl.LeafWires(n))
			mates, _ := impl.MatesOf(n)
			overwrite(mates)
			if checkLeaves(t, n); changed() {
				t.Fatalf("an argument is changed:%s", describeNet(plain))
			}
			leaves := impl.LeafWires(n)
			mates, _ = impl.MatesOf(n)
			overwriteNet(n)
			wantList(t, "LeafWires after a change of its argument", leaves, wantLeafWires(plain))
			want, _ := wantMatesOf(plain)
			wantList(t, "MatesOf after a change of its argument", mates, want)
		}
	}
	if found[true] < 100 || found[false] < 100 {
		t.Fatal("too few nets", found)
	}
}

// Calls at the same time do not disturb each other.
func TestTranslationsAtTheSameTime(t *testing.T) {
	lists, cases := someMultProofs()[:60], someMated()[:60]
	faults := make([]bool, len(lists))
	var group sync.WaitGroup
	for at := range lists {
		list, m := lists[at], cases[at]
		want, wantOk := wantNetOf(list)
		linked, linkedOk := wantLinkedNet(m.q, m.mates)
		group.Go(func() {
			for range 20 {
				n, ok := impl.NetOf(list)
				other, otherOk := impl.LinkedNet(m.q, m.mates)
				mates, _ := impl.MatesOf(other)
				if ok != wantOk || !sameNet(n, want) || otherOk != linkedOk || !sameNet(other, linked) || linkedOk && !slices.Equal(mates, m.mates) {
					faults[at] = true
				}
			}
		})
	}
	group.Wait()
	if at := slices.Index(faults, true); at >= 0 {
		t.Fatalf("results differ at the same time: %s\nor%s", describeMated(cases[at]), describe(lists[at]))
	}
}
