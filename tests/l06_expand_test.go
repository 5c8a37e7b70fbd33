package tests

import (
	"slices"
	"testing"

	"loop.example/g00872/impl"
)

// expandedTexts are proofs and their expansions, written out: axioms at every place, and every rule with and without premises behind them.
var expandedTexts = map[string]string{
	"ax (A*B)\n":                        "ax A\nax B\ntensor 0 1 0 0\npar 2 0 1\n",
	"ax ~H\n":                           "ax ~H\n",
	"one\n":                             "one\n",
	"ax 1\n":                            "one\nbot 0\n",
	"ax _\n":                            "one\nbot 0\nswap 1 0 1\n",
	"ax (A|B)\npar 0 1 0\n":             "ax A\nax B\ntensor 0 1 1 1\npar 2 0 1\nswap 3 0 1\npar 4 1 0\n",
	"ax A\nax !B\ntensor 0 1 0 0\n":     "ax A\nax B\nder 1 1\nprom 2 0\nswap 3 0 1\ntensor 0 4 0 0\n",
	"ax ?A\nax B\ntensor 1 0 0 0\n":     "ax A\nder 0 0\nprom 1 0\nax B\ntensor 3 2 0 0\n",
	"ax (A*B)\nax (A*B)\ncut 0 1 1 0\n": "ax A\nax B\ntensor 0 1 0 0\npar 2 0 1\nax A\nax B\ntensor 4 5 0 0\npar 6 0 1\ncut 3 7 1 0\n",
	"one\nax _\ncut 0 1 0 0\n":          "one\none\nbot 1\nswap 2 0 1\ncut 0 3 0 0\n",
	"ax ?A\nax B\nweak 1 !C\nweak 0 B\ntensor 2 3 0 0\n":        "ax A\nder 0 0\nprom 1 0\nax B\nweak 3 !C\nweak 2 B\ntensor 4 5 0 0\n",
	"ax (A+1)\nax (A+1)\nwith 1 0 0 0\nplusl 2 0 (A*A)\n":       "ax A\nplusl 0 0 1\none\nbot 2\nplusr 3 0 A\nwith 1 4 0 0\nax A\nplusl 6 0 1\none\nbot 8\nplusr 9 0 A\nwith 7 10 0 0\nwith 11 5 0 0\nplusl 12 0 (A*A)\n",
	"one\nax ?_\nax A\nbot 0\ntensor 1 2 0 0\ntensor 3 4 0 1\n": "one\none\nbot 1\nswap 2 0 1\nder 3 0\nprom 4 0\nax A\nbot 0\ntensor 5 6 0 0\ntensor 7 8 0 1\n",
}

func TestExpandedTexts(t *testing.T) {
	for text, want := range expandedTexts {
		list := mustReadProof(t, text)
		got, ok := impl.ExpandedProof(list)
		if !ok || !sameSteps(got, mustReadProof(t, want)) || impl.ProofText(got) != want {
			t.Fatalf("ExpandedProof of %q = %v with%s\ninstead of %q", text, ok, describe(got), want)
		}
		if !checkExpanded(t, list) || !checkExpanded(t, got) || !impl.Proves(got, impl.Seq{Forms: endOfProof(list)}) {
			t.Fatalf("the tests do not know %q", text)
		}
	}
}

// shortProofs returns valid proofs of few steps, with every rule and with longer formulas in their axioms.
func shortProofs() [][]impl.Step {
	out := chosenProofs()
	for _, list := range someProofs() {
		for k := range int64(len(list)) {
			if part := partOf(list, k); len(part) > 1 && len(part) <= 12 {
				out = append(out, part)
			}
		}
	}
	return out
}

// Expansion makes all axioms atomic and does not change the conclusion.
func TestExpandedProofs(t *testing.T) {
	counts, places, found := map[int64]int{}, map[int]int{}, map[bool]int{}
	for n, list := range append(shortProofs(), someProofs()...) {
		if n%3 > 0 && n > 300 {
			continue
		}
		ok := checkExpanded(t, list)
		if found[ok]++; !ok || allAtomic(list) {
			continue
		}
		compound := 0
		for k, s := range list {
			counts[s.Rule]++
			if s.Rule == ax && len(wantIdentity(treeOf(s.Form))) > 1 {
				places[k]++
				compound++
			}
		}
		places[-compound]++
	}
	for _, rule := range allRules {
		if counts[rule] < 20 {
			t.Fatal("too few steps with the rule", rule, counts)
		}
	}
	if found[true] < 300 || found[false] < 30 || places[0] < 100 || places[1] < 50 || places[3] < 20 || places[-1] < 100 || places[-2] < 20 || places[-3] < 5 {
		t.Fatal("too few proofs", found, places)
	}
}

// A proof whose axioms are atomic is its own expansion, also if it has no axiom or exactly MaxSteps steps.
func TestExpandedAtomicProofs(t *testing.T) {
	kept := 0
	for _, list := range someProofs() {
		if allAtomic(list) {
			kept++
			if got, ok := impl.ExpandedProof(list); !ok || !sameSteps(got, list) {
				t.Fatalf("ExpandedProof = %v with%s\ninstead of%s", ok, describe(got), describe(list))
			}
		}
	}
	if kept < 20 {
		t.Fatal("too few proofs", kept)
	}
}

// A result of exactly MaxSteps steps is returned, and one of more steps is not.
func TestLimitOfExpandedProofs(t *testing.T) {
	for steps := 1; steps <= 40; steps++ {
		for _, f := range []tree{leaf(1), leaf(13), leaf(14), chain(1, 0), chain(3, 5), chain(12, 0), chain(13, 0), chain(11, 3), chain(12, 2), chain(14, 0)} {
			list := padded([]impl.Step{axiom(f.list()...)}, steps)
			identity := len(wantIdentity(f))
			if ok := checkExpanded(t, list); ok != (identity+steps-1 <= 40) {
				t.Fatal("ExpandedProof of one axiom", f.text(), steps, ok)
			}
		}
	}
	// Two axioms with 1+3n and 20 steps, and a cut or a tensor.
	for n := range 12 {
		first, second := chain(n, 0).list(), chain(5, 2).list()
		for _, list := range [][]impl.Step{
			{axiom(first...), axiom(second...), step(tensor, 0, 1, 0, 0)}, {axiom(second...), axiom(first...), step(tensor, 1, 0, 1, 1)},
		} {
			if ok := checkExpanded(t, list); ok != (1+3*n+20+1 <= 40) {
				t.Fatal("ExpandedProof of two axioms", n, ok)
			}
		}
	}
	nineteen := chain(6, 0).list()
	twice := []impl.Step{axiom(nineteen...), axiom(nineteen...), step(cut, 0, 1, 0, 1)}
	for steps := 3; steps <= 6; steps++ {
		if ok := checkExpanded(t, padded(twice, steps)); ok != (2*19+steps-2 <= 40) {
			t.Fatal("ExpandedProof of a cut", steps, ok)
		}
	}
}

func TestExpandedOfNoProof(t *testing.T) {
	for _, list := range noProofs() {
		if got, ok := impl.ExpandedProof(list); ok || len(got) > 0 || checkExpanded(t, list) {
			t.Fatalf("ExpandedProof = %v of%s", got, describe(list))
		}
	}
}

// The axioms of valid proofs with every rule, of all their parts, and of copies with one change, most of which are no proofs.
func TestAxioms(t *testing.T) {
	counts, valid := map[int64]int{}, map[bool]int{}
	for n, list := range someProofs() {
		if !checkAxioms(t, list) {
			t.Fatalf("no valid proof:%s", describe(list))
		}
		for _, s := range list {
			counts[s.Rule]++
		}
		if n%40 == 0 || n < 26 {
			changedSteps(list, func(changed []impl.Step) {
				if counts[0]++; counts[0]%7 == 0 {
					valid[checkAxioms(t, changed)]++
					checkExpanded(t, changed)
				}
			})
		}
	}
	for _, list := range shortProofs() {
		valid[allAtomic(list)]++
		checkAxioms(t, list)
	}
	for _, rule := range allRules {
		if counts[rule] < 100 {
			t.Fatal("too few steps with the rule", rule, counts)
		}
	}
	if valid[true] < 200 || valid[false] < 1000 {
		t.Fatal("too few lists", valid)
	}
}

func TestAxiomsOfChosenProofs(t *testing.T) {
	for text, want := range map[string][][]int64{
		"ax A\n": {{1}}, "ax ~H\n": {{-8}}, "ax 1\n": {{13}}, "ax _\n": {{14}}, "one\n": nil, "one\nbot 0\n": nil, "ax !A\n": {{17, 1}},
		"ax B\nax A\ntensor 1 0 0 0\n": {{2}, {1}}, "ax A\nax A\ncut 0 1 0 1\n": {{1}, {1}}, "ax A\nax (A*B)\ntensor 0 1 0 0\n": {{1}, {11, 1, 2}},
		"ax A\nplusl 0 0 (A*B)\n": {{1}}, "ax A\nplusr 0 0 1\n": {{1}}, "ax A\nweak 0 !C\n": {{1}},
		"ax A\none\nbot 1\ntensor 0 2 0 1\nax _\nax ~A\ncut 3 4 1 0\ntensor 6 5 0 1\n": {{1}, {14}, {-1}},
	} {
		list := mustReadProof(t, text)
		atomic := !slices.ContainsFunc(want, func(f []int64) bool { return len(f) > 1 || f[0] > 10 })
		if got := impl.AxiomForms(list); !sameForms(got, want) || impl.AtomicAxioms(list) != atomic || !checkAxioms(t, list) {
			t.Fatalf("AxiomForms of %q = %v, AtomicAxioms = %v", text, got, !atomic)
		}
	}
	for _, list := range noProofs() {
		if impl.AtomicAxioms(list) || len(impl.AxiomForms(list)) > 0 || checkAxioms(t, list) {
			t.Fatalf("axioms of%s", describe(list))
		}
	}
}

func TestExpandedUnshared(t *testing.T) {
	results := 0
	for n, list := range append(chosenProofs(), shortProofs()...) {
		if n%9 > 0 && n > 60 {
			continue
		}
		kept, changed := guardedSteps(list)
		if want := wantExpanded(list); len(want) <= 40 {
			results++
			checkStepsUnshared(t, "ExpandedProof", func() ([]impl.Step, bool) { return impl.ExpandedProof(kept) }, want, changed)
			got, _ := impl.ExpandedProof(kept)
			overwriteSteps(kept)
			if !sameSteps(got, want) {
				t.Fatalf("ExpandedProof changes with its argument:%s", describe(list))
			}
		} else if _, ok := impl.ExpandedProof(kept); ok || changed() {
			t.Fatalf("ExpandedProof has a result or changes its argument:%s", describe(list))
		}
	}
	if results < 50 {
		t.Fatal("too few results", results)
	}
	for _, list := range noProofs() {
		kept, changed := guardedSteps(list)
		if checkExpanded(t, kept) || checkAxioms(t, kept) || changed() {
			t.Fatalf("an argument is changed:%s", describe(list))
		}
	}
}

// overwriteSteps changes a list of steps and their formulas.
func overwriteSteps(list []impl.Step) {
	for k := range list {
		overwrite(list[k].Form)
		list[k] = impl.Step{}
	}
}

func TestAxiomFormsUnshared(t *testing.T) {
	axiomsOf := func(list []impl.Step) func(impl.Seq) impl.Seq {
		return func(impl.Seq) impl.Seq { return impl.Seq{Forms: impl.AxiomForms(list)} }
	}
	for _, list := range someProofs()[:150] {
		kept, changed := guardedSteps(list)
		checkSeqUnshared(t, "AxiomForms", axiomsOf(kept), impl.Seq{}, changed)
		if impl.AtomicAxioms(kept); changed() {
			t.Fatalf("AtomicAxioms changes its argument:%s", describe(list))
		}
		got := impl.AxiomForms(kept)
		overwriteSteps(kept)
		if !sameForms(got, wantAxioms(list)) {
			t.Fatalf("AxiomForms changes with its argument:%s", describe(list))
		}
	}
	form, changed := guarded([]int64{11, 1, -2})
	same := []impl.Step{axiom(form...), axiom(form...), step(tensor, 0, 1, 0, 0)}
	checkSeqUnshared(t, "AxiomForms of axioms with one Form", axiomsOf(same), impl.Seq{}, changed)
	if got := impl.AxiomForms(same); !sameForms(got, [][]int64{form, form}) {
		t.Fatal("AxiomForms", got)
	}
	expand := func() ([]impl.Step, bool) { return impl.ExpandedProof(same) }
	checkStepsUnshared(t, "ExpandedProof of axioms with one Form", expand, wantExpanded(same), changed)
}
