package tests

import (
	"slices"
	"testing"

	"loop.example/g00872/impl"
)

// substProofCase is a proof, a binding and the result, written out; an empty result stands for none.
type substProofCase struct{ proof, binding, want string }

// Every rule, axioms in several places, and cuts.
func TestSubstProofTexts(t *testing.T) {
	for _, c := range []substProofCase{
		{"ax A\n", "", "ax A\n"}, {"ax A\n", "A=(B*C)", "ax (B*C)\n"}, {"ax ~A\n", "A=(B*C)", "ax (~B|~C)\n"}, {"ax B\n", "A=(B*C)", "ax B\n"}, {"one\n", "A=B", "one\n"},
		{"ax A\npar 0 0 1\n", "A=B, B=A", "ax B\npar 0 0 1\n"}, {"one\nbot 0\n", "A=1", "one\nbot 0\n"}, {"ax A\nax B\ntensor 0 1 0 0\n", "A=B, B=A", "ax B\nax A\ntensor 0 1 0 0\n"},
		{"ax A\nax B\ntensor 1 0 1 0\nax ~A\ncut 2 3 1 1\n", "A=!B, B=~A", "ax !B\nax ~A\ntensor 1 0 1 0\nax ?~B\ncut 2 3 1 1\n"},
		{"ax A\nax A\ncut 0 1 0 1\n", "A=(A+A)", "ax (A+A)\nax (A+A)\ncut 0 1 0 1\n"}, {"ax ~A\nax A\ncut 0 1 0 0\n", "A=?1", "ax !_\nax ?1\ncut 0 1 0 0\n"},
		{"ax A\nax A\nwith 0 1 0 0\n", "A=~H", "ax ~H\nax ~H\nwith 0 1 0 0\n"},
		{"ax A\nplusl 0 0 (A*B)\nplusr 1 0 ~B\n", "A=C, B=!A", "ax C\nplusl 0 0 (C*!A)\nplusr 1 0 ?~A\n"}, {"ax A\nplusl 0 0 1\n", "B=C", "ax A\nplusl 0 0 1\n"},
		{"ax A\nder 0 1\nprom 1 0\n", "A=?~A", "ax ?~A\nder 0 1\nprom 1 0\n"}, {"ax ?A\nprom 0 1\n", "A=1", "ax ?1\nprom 0 1\n"},
		{"one\nweak 0 A\nweak 1 A\ncon 2 1 2\n", "A=(B|A)", "one\nweak 0 (B|A)\nweak 1 (B|A)\ncon 2 1 2\n"}, {"ax A\nweak 0 ~B\nswap 1 0 2\n", "B=_", "ax A\nweak 0 1\nswap 1 0 2\n"},
		// The axiom has 24 + 24 symbols; OpPar would make 49 of them.
		{"ax A\n", "A=!!!!!!!!!!!!!!!!!!!!!!!B", "ax !!!!!!!!!!!!!!!!!!!!!!!B\n"}, {"ax A\npar 0 0 1\n", "A=!!!!!!!!!!!!!!!!!!!!!!!B", ""},
		{"ax A\npar 0 0 1\n", "A=!!!!!!!!!!B", "ax !!!!!!!!!!B\npar 0 0 1\n"}, {"ax A\npar 0 0 1\n", "A=!!!!!!!!!!!B", ""},
		{"ax A\nweak 0 B\n", "B=!!!!!!!!!!!!!!!!!!!!!!C", "ax A\nweak 0 !!!!!!!!!!!!!!!!!!!!!!C\n"}, {"ax A\nweak 0 B\n", "B=!!!!!!!!!!!!!!!!!!!!!!!C", ""},
		{"ax !A\n", "A=!!!!!!!!!!!!!!!!!!!!!!B", "ax !!!!!!!!!!!!!!!!!!!!!!!B\n"}, {"ax !A\n", "A=!!!!!!!!!!!!!!!!!!!!!!!B", ""},
	} {
		list, bound := mustReadProof(t, c.proof), boundBy(c.binding)
		got, ok := impl.SubstProof(list, bound)
		if ok != (c.want != "") || impl.ProofText(got) != c.want || !ok && len(got) > 0 || ok && !sameSteps(got, mustReadProof(t, c.want)) {
			t.Fatalf("SubstProof of %q with %s = %v with%s\ninstead of %q", c.proof, c.binding, ok, describe(got), c.want)
		}
		checkSubstProof(t, list, bound)
	}
}

// Valid proofs with every rule: the result is a proof of the substituted conclusion.
func TestSubstProofs(t *testing.T) {
	counts, axioms, found := map[int64]int{}, map[int]int{}, map[bool]int{}
	lists := someBindings()
	for n, list := range append(someProofs(), shortProofs()...) {
		if n%3 > 0 && n > 500 {
			continue
		}
		for m := range 5 {
			bound := lists[(n*5+m*11)%len(lists)]
			ok := checkSubstProof(t, list, bound)
			found[ok]++
			if got, _ := impl.SubstProof(list, bound); !ok || sameSteps(got, list) {
				continue
			}
			axioms[len(wantAxioms(list))]++
			for _, s := range list {
				counts[s.Rule]++
			}
		}
	}
	for _, rule := range allRules {
		if counts[rule] < 100 {
			t.Fatal("too few steps with the rule", rule, counts)
		}
	}
	if found[true] < 2000 || found[false] < 500 || axioms[0] < 5 || axioms[1] < 300 || axioms[2] < 100 || axioms[3] < 50 {
		t.Fatal("too few proofs", found, axioms)
	}
}

// The identity proof of a formula becomes a proof of the substituted formula and its dual, whose expansion is the identity proof of that.
func TestSubstIdentityProofs(t *testing.T) {
	found, expanded := 0, 0
	for n, f := range leafyTrees() {
		identity, ok := impl.IdentityProof(f.list())
		list := boundBy(chosenTexts[n%len(chosenTexts)])
		if !ok || !checkSubstProof(t, identity, list) {
			continue
		}
		found++
		got, _ := impl.SubstProof(identity, list)
		image := f.put(list)
		if !impl.Proves(got, seqOf(image.list(), image.dual().list())) {
			t.Fatalf("SubstProof of the identity proof of %s with %s:%s", f.text(), textsOf(list), describe(got))
		}
		want, ok := impl.IdentityProof(image.list())
		if whole, wholeOk := impl.ExpandedProof(got); ok != wholeOk || !sameSteps(whole, want) {
			t.Fatalf("the expansion is no identity proof of %s:%s", image.text(), describe(whole))
		}
		if ok && !allAtomic(got) {
			expanded++
		}
	}
	if found < 300 || expanded < 50 {
		t.Fatal("too few identity proofs", found, expanded)
	}
}

// A step that substitution makes too long has no result, although the conclusion stays as it is.
func TestSubstOfLongSteps(t *testing.T) {
	list := mustReadProof(t, "ax A\npar 0 0 1\nprom 1 0\none\nweak 3 (~A*A)\ncut 2 4 0 1\n")
	for size := 1; size <= 24; size++ {
		bound := noElements()
		bound[0] = dualList(bangs(size))
		conclusion, ok := impl.SubstSeq(seqOf([]int64{13}), bound)
		if !ok || !sameForms(conclusion.Forms, [][]int64{{13}}) || !sameForms(endOfProof(list), conclusion.Forms) {
			t.Fatal("the conclusion contains the atom")
		}
		if got, ok := impl.SubstProof(list, bound); ok != (2+2*size <= 24) || !ok && len(got) > 0 || checkSubstProof(t, list, bound) != ok {
			t.Fatal("SubstProof", size, ok)
		}
	}
	// A sequent of ten formulas grows to 60 symbols, and beyond.
	weakened := []impl.Step{axiom(1)}
	for n := range int64(8) {
		weakened = append(weakened, step(weak, n, -1, 0, 0, 2))
	}
	for size := 1; size <= 24; size++ {
		for place, total := range map[int]int{0: 2*size + 16, 1: 2 + 8*(1+size)} {
			bound := noElements()
			bound[place] = bangs(size)
			if ok := checkSubstProof(t, weakened, bound); ok != (total <= 60 && (place == 0 || size < 24)) {
				t.Fatal("SubstProof of ten formulas", size, place, ok)
			}
		}
	}
}

// A proof of exactly MaxSteps steps has a result, and a list of more steps is no proof.
func TestLimitOfSubstProofs(t *testing.T) {
	tensorProof := mustReadProof(t, "ax A\nax B\ntensor 0 1 0 0\n")
	for count := 3; count <= 42; count++ {
		for _, text := range chosenTexts {
			got, ok := impl.SubstProof(padded(tensorProof, count), boundBy(text))
			if ok != (count <= 40) || ok && len(got) != count || !ok && len(got) > 0 {
				t.Fatal("SubstProof of a chain", count, text, ok, len(got))
			}
			checkSubstProof(t, padded(tensorProof, count), boundBy(text))
		}
	}
}

// A list that is no valid proof has no result, even if it would become one.
func TestSubstOfNoProof(t *testing.T) {
	refuse := func(list []impl.Step, bound [][]int64) {
		t.Helper()
		if got, ok := impl.SubstProof(list, bound); ok || len(got) > 0 || checkSubstProof(t, list, bound) {
			t.Fatalf("SubstProof with %s = %v with%s\nof%s", textsOf(bound), ok, describe(got), describe(list))
		}
	}
	for _, list := range noProofs() {
		for _, text := range []string{"", "A=B", "A=(B*C)", "A=?B, B=A"} {
			refuse(list, boundBy(text))
		}
	}
	for text, binding := range map[string]string{
		"ax A\nax B\ncut 0 1 0 1\n": "B=A", "ax A\nax B\ncut 0 1 0 0\n": "B=~A", "ax A\nax 1\ncut 0 1 1 0\n": "A=1", "ax A\nax B\nwith 0 1 0 0\n": "A=C, B=C",
		"ax A\nprom 0 0\n": "A=!B", "ax A\nswap 0 0 1\nprom 1 0\n": "A=?B", "one\nweak 0 A\nweak 1 B\ncon 2 1 2\n": "B=A", "one\nbot 0\nbot 1\nweak 2 A\nax ?_\ncut 3 4 3 1\n": "A=_",
		"ax ?A\nax A\ntensor 0 1 1 1\ncon 2 0 1\n": "A=?A",
	} {
		list, line := wantReadProof(text)
		if line != 0 || isProof(list) {
			t.Fatalf("%q is a proof", text)
		}
		refuse(list, boundBy(binding))
		refuse(list, noElements())
	}
	noBindings(func(bound [][]int64) {
		for _, text := range []string{"ax A\n", "one\n", "ax B\nbot 0\n", "ax C\nax ~D\ntensor 0 1 0 0\n"} {
			list, _ := wantReadProof(text)
			refuse(list, bound)
		}
		refuse(nil, bound)
	})
	visited, found := 0, map[bool]int{}
	for _, list := range chosenProofs() {
		changedSteps(list, func(changed []impl.Step) {
			if visited++; visited%9 == 0 {
				found[checkSubstProof(t, changed, boundBy(chosenTexts[visited%len(chosenTexts)]))]++
			}
		})
	}
	if found[true] < 50 || found[false] < 500 {
		t.Fatal("too few lists", found)
	}
}

// SubstProof changes no argument, and its result shares no memory with one or within itself.
func TestSubstProofsUnshared(t *testing.T) {
	results := 0
	lists := append(someBindings()[:60], noElements()[:7], slices.Repeat([][]int64{{11, 1}}, 8))
	for n, plain := range append(someProofs()[:120], shortProofs()[:60]...) {
		for m := range 2 {
			steps, changedSteps := guardedSteps(plain)
			bound, changedBound := guardedSeq(lists[(n*2+m*5)%len(lists)])
			changed := func() bool { return changedSteps() || changedBound() }
			want := wantSubstProof(plain, bound.Forms)
			got, ok := impl.SubstProof(steps, bound.Forms)
			if changed() || ok != (want != nil) {
				t.Fatalf("SubstProof = %v or changes an argument:%s", ok, describe(plain))
			}
			if ok {
				results++
				checkStepsUnshared(t, "SubstProof", func() ([]impl.Step, bool) { return impl.SubstProof(steps, bound.Forms) }, want, changed)
			}
			overwriteSteps(steps)
			for _, f := range bound.Forms {
				overwrite(f)
			}
			if !sameSteps(got, want) {
				t.Fatalf("SubstProof changes with its arguments:%s", describe(plain))
			}
		}
	}
	if results < 150 {
		t.Fatal("too few results", results)
	}
	// One list serves as every Form and as every element.
	for _, plain := range [][]int64{{1}, {-1}, {13}, {11, 1, -2}} {
		f, changed := guarded(plain)
		list := []impl.Step{axiom(f...), axiom(f...), step(tensor, 0, 1, 0, 0), step(weak, 2, -1, 0, 0), step(plusL, 3, -1, 0, 0)}
		for _, k := range []int{0, 1, 3, 4} {
			list[k].Form = f
		}
		same := slices.Repeat([][]int64{f}, 8)
		checkStepsUnshared(t, "SubstProof with one list", func() ([]impl.Step, bool) { return impl.SubstProof(list, same) }, wantSubstProof(list, same), changed)
		checkStepsUnshared(t, "SubstProof without elements", func() ([]impl.Step, bool) { return impl.SubstProof(list, noElements()) }, list, changed)
	}
	for _, plain := range noProofs() {
		steps, changed := guardedSteps(plain)
		if checkSubstProof(t, steps, boundBy("A=(B*C)")) || changed() {
			t.Fatalf("an argument is changed:%s", describe(plain))
		}
	}
}
