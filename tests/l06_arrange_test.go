package tests

import (
	"slices"
	"testing"

	"loop.example/g00872/impl"
)

// arrangedCase is a proof, the text of a sequent, and the steps that are appended.
type arrangedCase struct{ proof, sequent, steps string }

// Orders of conclusions with different and with equal formulas, written out.
func TestArrangedTexts(t *testing.T) {
	for _, c := range []arrangedCase{
		{"ax A\n", "A, ~A", ""}, {"ax A\n", "~A, A", "swap 0 0 1\n"}, {"one\n", "1", ""}, {"ax A\npar 0 0 1\n", "(A|~A)", ""},
		{"one\nbot 0\nbot 1\n", "1, _, _", ""}, {"one\nbot 0\nbot 1\n", "_, 1, _", "swap 2 0 1\n"},
		// The first of two equal formulas is exchanged, and then the second one.
		{"one\nbot 0\nbot 1\n", "_, _, 1", "swap 2 0 1\nswap 3 1 2\n"},
		{"one\nbot 0\nbot 1\nswap 2 0 1\n", "1, _, _", "swap 3 0 1\n"},
		{"one\nbot 0\nbot 1\nswap 2 0 2\n", "1, _, _", "swap 3 0 2\n"},
		{"ax A\nax B\ntensor 0 1 0 0\n", "~A, ~B, (A*B)", ""}, {"ax A\nax B\ntensor 0 1 0 0\n", "~B, ~A, (A*B)", "swap 2 0 1\n"},
		{"ax A\nax B\ntensor 0 1 0 0\n", "(A*B), ~B, ~A", "swap 2 0 2\n"}, {"ax A\nax B\ntensor 0 1 0 0\n", "~A, (A*B), ~B", "swap 2 1 2\n"},
		{"ax A\nax B\ntensor 0 1 0 0\n", "~B, (A*B), ~A", "swap 2 0 1\nswap 3 1 2\n"},
		{"ax A\nax B\ntensor 0 1 0 0\n", "(A*B), ~A, ~B", "swap 2 0 2\nswap 3 1 2\n"},
		{"ax A\nweak 0 A\nweak 1 B\nweak 2 A\n", "?B, ?A, A, ?A, ~A", "swap 3 0 3\nswap 4 1 2\nswap 5 2 3\nswap 6 3 4\n"},
		{"ax A\nweak 0 A\nweak 1 B\nweak 2 A\n", "?A, ~A, A, ?B, ?A", "swap 3 0 2\n"},
	} {
		list, q := mustReadProof(t, c.proof), mustRead(t, c.sequent)
		want := mustReadProof(t, c.proof+c.steps)
		got, ok := impl.ArrangedProof(list, q)
		if !ok || !sameSteps(got, want) || impl.ProofText(got) != c.proof+c.steps || !impl.Proves(got, q) || !checkArranged(t, list, q) {
			t.Fatalf("ArrangedProof of %q for %q = %v with%s", c.proof, c.sequent, ok, describe(got))
		}
	}
}

// arrangedProofs are proofs with conclusions of up to six formulas, different and equal ones.
func arrangedProofs(t *testing.T) [][]impl.Step {
	var out [][]impl.Step
	for _, text := range []string{
		"one\n", "ax A\n", "one\nbot 0\n", "ax A\nax A\ntensor 0 1 0 1\n", "ax A\nax B\ntensor 0 1 0 0\n", "one\nbot 0\nbot 1\nbot 2\n",
		"one\nweak 0 1\nweak 1 1\nbot 2\n", "ax (A*B)\nax (A*B)\ntensor 0 1 0 1\nbot 2\n", "ax A\nweak 0 A\nweak 1 B\nweak 2 A\n",
		"ax A\nbot 0\nbot 1\nweak 2 C\nweak 3 C\n", "ax A\nax B\nax A\ntensor 0 1 0 1\ntensor 3 2 0 1\nweak 4 A\nweak 5 B\n", "one\nbot 0\nbot 1\nbot 2\nweak 3 A\nweak 4 A\n",
	} {
		out = append(out, mustReadProof(t, text))
	}
	return out
}

// Every order of a conclusion.
func TestEveryOrderOfConclusions(t *testing.T) {
	exchanges := map[int]int{}
	for _, list := range arrangedProofs(t) {
		eachOrder(endOfProof(list), func(forms [][]int64) {
			if !checkArranged(t, list, seqOf(forms...)) {
				t.Fatalf("no proof of %v from%s", forms, describe(list))
			}
			got, _ := impl.ArrangedProof(list, seqOf(forms...))
			exchanges[len(got)-len(list)]++
		})
	}
	for count := range 6 {
		if exchanges[count] < 20 {
			t.Fatal("too few orders with this number of exchanges", count, exchanges)
		}
	}
}

// shuffled returns the formulas in another order.
func shuffled(forms [][]int64, seed *uint64) [][]int64 {
	out := slices.Clone(forms)
	for n := len(out) - 1; n > 0; n-- {
		other := choose(seed, uint64(n+1))
		out[n], out[other] = out[other], out[n]
	}
	return out
}

// Valid proofs with every rule, arranged for several orders; from each of them the first one is reached again.
func TestArrangedProofs(t *testing.T) {
	seed := uint64(62)
	found := map[bool]int{}
	for n, list := range append(someProofs(), shortProofs()...) {
		if n%4 > 0 && n > 100 {
			continue
		}
		end := seqOf(endOfProof(list)...)
		if got, ok := impl.ArrangedProof(list, end); !ok || !sameSteps(got, list) || !checkArranged(t, list, end) {
			t.Fatalf("ArrangedProof for its own conclusion = %v with%s\ninstead of%s", ok, describe(got), describe(list))
		}
		for range 3 {
			q := seqOf(shuffled(end.Forms, &seed)...)
			ok := checkArranged(t, list, q)
			found[ok]++
			if got, _ := impl.ArrangedProof(list, q); ok {
				checkArranged(t, got, end)
			}
		}
	}
	if found[true] < 800 || found[false] < 30 {
		t.Fatal("too few orders", found)
	}
}

// A result of exactly MaxSteps steps is returned, and one of more steps is not.
func TestLimitOfArrangedProofs(t *testing.T) {
	start := mustReadProof(t, "ax A\nax B\ntensor 0 1 0 0\n")
	for count := 3; count <= 40; count++ {
		list := padded(start, count)
		end := endOfProof(list)
		for exchanges, q := range []impl.Seq{
			seqOf(end...), seqOf(end[0], end[2], end[1]), seqOf(end[1], end[2], end[0]),
		} {
			got, ok := impl.ArrangedProof(list, q)
			if ok != (count+exchanges <= 40) || ok && len(got) != count+exchanges || !ok && len(got) != 0 || checkArranged(t, list, q) != ok {
				t.Fatal("ArrangedProof of a chain", count, exchanges, ok, len(got))
			}
		}
	}
}

// A sequent that is not the same multiset, or that is not valid.
func TestArrangedForOtherSequents(t *testing.T) {
	refuse := func(list []impl.Step, q impl.Seq) {
		t.Helper()
		if got, ok := impl.ArrangedProof(list, q); ok || len(got) > 0 || checkArranged(t, list, q) {
			t.Fatalf("ArrangedProof for %v = %v of%s", q.Forms, got, describe(list))
		}
	}
	pair, units := mustReadProof(t, "ax A\n"), mustReadProof(t, "one\nbot 0\nbot 1\n")
	for _, text := range []string{"", "A", "~A", "A, A", "~A, ~A", "A, ~B", "B, ~B", "A, ~A, A", "A, ~A, ~A", "~A, A, 1", "(A|~A)", "A, (~A|~A)", "1, _"} {
		refuse(pair, mustRead(t, text))
	}
	for _, text := range []string{"", "1, _", "1, 1, _", "_, _, _", "1, _, _, _", "1, 1, _, _", "1, _, A", "_, 1", "_, _"} {
		refuse(units, mustRead(t, text))
	}
	brokenSeqs(func(q impl.Seq) {
		if len(q.Forms) < 4 {
			refuse(pair, q)
			refuse(units, q)
		}
	})
	for _, trees := range overLimits() {
		refuse(pair, seqOfTrees(trees))
	}
	for _, bad := range [][]int64{nil, {}, {11}, {-1, -1}, {9}, bangs(25)} {
		refuse(pair, seqOf([]int64{1}, bad))
		refuse(pair, seqOf(bad, []int64{1}))
		refuse(pair, seqOf([]int64{1}, []int64{-1}, bad))
		refuse(pair, seqOf(bad, []int64{1}, []int64{-1}))
	}
	for n, list := range someProofs() {
		if n%10 > 0 {
			continue
		}
		for _, q := range variants(treesOf(endOfProof(list))) {
			checkArranged(t, list, q)
		}
	}
}

// treesOf returns formulas as trees.
func treesOf(forms [][]int64) []tree {
	var out []tree
	for _, f := range forms {
		out = append(out, treeOf(f))
	}
	return out
}

// A list that is no valid proof has no result, whatever the sequent.
func TestArrangedOfNoProof(t *testing.T) {
	for _, list := range noProofs() {
		for _, text := range []string{"", "A, ~A", "~A, A", "1", "(A|~A)", "B, ~B", "~A, ~A, (A*A)", "A, ?~A"} {
			q := mustRead(t, text)
			if got, ok := impl.ArrangedProof(list, q); ok || len(got) > 0 || checkArranged(t, list, q) {
				t.Fatalf("ArrangedProof for %q = %v of%s", text, got, describe(list))
			}
		}
	}
	visited, found := 0, map[bool]int{}
	for _, list := range chosenProofs() {
		end := endOfProof(list)
		slices.Reverse(end)
		changedSteps(list, func(changed []impl.Step) {
			if visited++; visited%11 == 0 {
				found[checkArranged(t, changed, seqOf(end...))]++
			}
		})
	}
	if found[true] < 50 || found[false] < 500 {
		t.Fatal("too few lists", found)
	}
}

// Neither the proof nor the sequent is changed, and the result shares no memory with them or within itself.
func TestArrangedUnshared(t *testing.T) {
	seed := uint64(63)
	for _, plain := range append(arrangedProofs(t), shortProofs()[:80]...) {
		list, changedList := guardedSteps(plain)
		q, changedSeq := guardedSeq(shuffled(endOfProof(plain), &seed))
		changed := func() bool { return changedList() || changedSeq() }
		want := wantArranged(plain, q)
		if want != nil {
			checkStepsUnshared(t, "ArrangedProof", func() ([]impl.Step, bool) { return impl.ArrangedProof(list, q) }, want, changed)
		}
		got, _ := impl.ArrangedProof(list, q)
		if changed() {
			t.Fatalf("an argument is changed:%s", describe(plain))
		}
		overwriteSteps(list)
		for _, f := range q.Forms {
			overwrite(f)
		}
		if !sameSteps(got, want) {
			t.Fatalf("ArrangedProof changes with its arguments:%s", describe(plain))
		}
	}
	for _, plain := range noProofs() {
		list, changedList := guardedSteps(plain)
		q, changedSeq := guardedSeq([][]int64{{-1}, {1}, {11}})
		if checkArranged(t, list, q) || changedList() || changedSeq() {
			t.Fatalf("an argument is changed:%s", describe(plain))
		}
	}
}
