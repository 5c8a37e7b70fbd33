package tests

import (
	"fmt"
	"math"
	"slices"
	"testing"

	"loop.example/g00872/impl"
)

// checkProof compares what every function of a list of steps returns with what the tests expect, and returns the code.
func checkProof(t *testing.T, list []impl.Step) int64 {
	t.Helper()
	want, wantCode, wantAt := wantCheck(list)
	got, code, at := impl.CheckProof(list)
	if code != wantCode || at != wantAt || !sameSeqs(got, want) {
		t.Fatalf("CheckProof = %v, %d, %d, want %v, %d, %d of%s", got, code, at, want, wantCode, wantAt, describe(list))
	}
	if impl.ValidProof(list) != (wantCode == codeOk) {
		t.Fatalf("ValidProof = %v of%s", wantCode != codeOk, describe(list))
	}
	if wantCode == codeOk {
		checkValidProof(t, list, want)
	} else {
		checkNoProof(t, list)
	}
	return wantCode
}

// checkValidProof checks the functions of a valid proof whose steps have these sequents, but for SubProof.
func checkValidProof(t *testing.T, list []impl.Step, all []impl.Seq) {
	t.Helper()
	last := all[len(all)-1]
	if got, ok := impl.ConclusionOf(list); !ok || !sameForms(got.Forms, last.Forms) {
		t.Fatalf("ConclusionOf = %v, %v, want %v of%s", got, ok, last, describe(list))
	}
	counts := make([]int64, 14)
	for _, s := range list {
		counts[s.Rule-1]++
	}
	wantList(t, "RuleCounts", impl.RuleCounts(list), counts)
	if got, want := impl.HeightOf(list), wantHeight(list, int64(len(list))-1); got != want {
		t.Fatalf("HeightOf = %d, want %d of%s", got, want, describe(list))
	}
	if !impl.Proves(list, last) || impl.Proves(list, impl.Seq{Forms: append(copyOf(last), []int64{1})}) {
		t.Fatalf("Proves of the conclusion, and of one formula more, of%s", describe(list))
	}
}

// checkNoProof checks the functions of a list that is no valid proof.
func checkNoProof(t *testing.T, list []impl.Step) {
	t.Helper()
	conclusion, ok := impl.ConclusionOf(list)
	if ok || len(conclusion.Forms) > 0 || len(impl.RuleCounts(list)) > 0 || impl.HeightOf(list) != -1 {
		t.Fatalf("ConclusionOf, RuleCounts or HeightOf have a result of%s", describe(list))
	}
	if impl.Proves(list, impl.Seq{}) || impl.Proves(list, seqOf([]int64{1}, []int64{-1})) {
		t.Fatalf("Proves = true of%s", describe(list))
	}
	for _, k := range []int64{0, int64(len(list)) - 1, 1} {
		checkNoPart(t, list, k)
	}
}

func checkNoPart(t *testing.T, list []impl.Step, k int64) {
	t.Helper()
	if part, ok := impl.SubProof(list, k); ok || len(part) > 0 {
		t.Fatalf("SubProof at %d = %v, %v of%s", k, part, ok, describe(list))
	}
}

func TestValidProofs(t *testing.T) {
	counts := map[int64]int{}
	most := 0
	for _, list := range someProofs() {
		if code := checkProof(t, list); code != codeOk {
			t.Fatalf("code %d of%s", code, describe(list))
		}
		for _, s := range list {
			counts[s.Rule]++
		}
		if len(list) == 40 {
			most++
		}
	}
	for _, rule := range allRules {
		if counts[rule] < 100 {
			t.Fatal("too few steps with the rule", rule, counts[rule])
		}
	}
	if most < 30 {
		t.Fatal("too few proofs of 40 steps", most)
	}
}

// Every part of a valid proof is a valid proof, whose conclusion is the sequent of its step.
func TestPartsOfProofs(t *testing.T) {
	for _, list := range someProofs() {
		all, code, at := impl.CheckProof(list)
		if code != codeOk || at != -1 || len(all) != len(list) {
			t.Fatalf("CheckProof = %d, %d of%s", code, at, describe(list))
		}
		for k := range int64(len(list)) {
			part, ok := impl.SubProof(list, k)
			if !ok || !sameSteps(part, partOf(list, k)) {
				t.Fatalf("SubProof at %d: %v%s of%s", k, ok, describe(part), describe(list))
			}
			if _, code, _ := wantCheck(part); code != codeOk || !impl.ValidProof(part) {
				t.Fatalf("the part at %d is not valid: code %d of%s", k, code, describe(list))
			}
			if conclusion, ok := impl.ConclusionOf(part); !ok || !sameForms(conclusion.Forms, all[k].Forms) || !impl.Proves(part, all[k]) {
				t.Fatalf("the part at %d has another conclusion: %v of%s", k, conclusion, describe(list))
			}
			if k == int64(len(list))-1 && !sameSteps(part, list) {
				t.Fatalf("the part of the last step is not the proof itself:%s", describe(list))
			}
		}
		for _, k := range append([]int64{int64(len(list)), int64(len(list)) + 1, 40, 1 << 8, 1<<32 + 1}, oddIndices...) {
			if k < 0 || k >= int64(len(list)) {
				checkNoPart(t, list, k)
			}
		}
	}
}

// Parts of parts are parts of the whole proof.
func TestPartsOfParts(t *testing.T) {
	for _, list := range someProofs()[:150] {
		for k := range int64(len(list)) {
			part, _ := impl.SubProof(list, k)
			for n, place := range below(list, k) {
				inner, ok := impl.SubProof(part, int64(n))
				outer, _ := impl.SubProof(list, place)
				if !ok || !sameSteps(inner, outer) {
					t.Fatalf("the part %d of the part %d of%s", n, k, describe(list))
				}
			}
		}
	}
}

// A proof without additive and exponential rules has a balanced conclusion, whatever the formulas of its axioms.
func TestBalancedConclusions(t *testing.T) {
	seed := uint64(9)
	counts, operators := map[int64]int{}, map[int64]int{}
	for range 400 {
		list := grownProof(balancedRules, &seed)
		if code := checkProof(t, list); code != codeOk {
			t.Fatalf("code %d of%s", code, describe(list))
		}
		all, _, _ := impl.CheckProof(list)
		for k, q := range all {
			counts[list[k].Rule]++
			for _, symbol := range slices.Concat(q.Forms...) {
				operators[symbol]++
			}
			if !impl.BalancedSeq(q) {
				t.Fatalf("step %d has %v in%s", k, q, describe(list))
			}
		}
		if conclusion, ok := impl.ConclusionOf(list); !ok || !impl.BalancedSeq(conclusion) {
			t.Fatalf("the conclusion is %v of%s", conclusion, describe(list))
		}
	}
	for _, rule := range balancedRules {
		if counts[rule] < 100 {
			t.Fatal("too few steps with the rule", rule, counts[rule])
		}
	}
	for op := int64(11); op <= 18; op++ {
		if operators[op] == 0 {
			t.Fatal("no operator", op)
		}
	}
}

// With additive or exponential rules the conclusion need not be balanced.
func TestConclusionsOutOfBalance(t *testing.T) {
	for _, list := range [][]impl.Step{
		{axiom(1), step(weak, 0, -1, 0, 0, 2)},
		{axiom(1), step(plusL, 0, -1, 0, 0, 2)},
		{axiom(1), step(plusR, 0, -1, 1, 0, 1)},
		{axiom(1), axiom(1), step(with, 0, 1, 0, 0)},
		{axiom(18, 1), axiom(18, 1), step(tensor, 0, 1, 1, 1), step(con, 2, -1, 0, 1), axiom(1), step(tensor, 3, 4, 1, 0)},
	} {
		if code := checkProof(t, list); code != codeOk {
			t.Fatalf("code %d of%s", code, describe(list))
		}
		if conclusion, ok := impl.ConclusionOf(list); !ok || impl.BalancedSeq(conclusion) {
			t.Fatalf("the conclusion is %v of%s", conclusion, describe(list))
		}
	}
}

func TestExamplesOfProofs(t *testing.T) {
	list := []impl.Step{axiom(1), axiom(2), step(tensor, 0, 1, 0, 0), step(par, 2, -1, 0, 1), step(swap, 3, -1, 0, 1)}
	all, code, at := impl.CheckProof(list)
	if code != codeOk || at != -1 || len(all) != 5 {
		t.Fatal("CheckProof", all, code, at)
	}
	for k, want := range []string{"A, ~A", "B, ~B", "~A, ~B, (A*B)", "(A*B), (~A|~B)", "(~A|~B), (A*B)"} {
		if got := impl.SeqText(all[k]); got != want {
			t.Fatalf("the sequent of the step %d is %q, want %q", k, got, want)
		}
	}
	wantList(t, "RuleCounts", impl.RuleCounts(list), []int64{2, 0, 1, 1, 0, 0, 0, 0, 0, 0, 0, 0, 0, 1})
	if impl.HeightOf(list) != 4 || impl.HeightOf(list[:1]) != 1 {
		t.Fatal("HeightOf", impl.HeightOf(list), impl.HeightOf(list[:1]))
	}
	part, ok := impl.SubProof(list, 1)
	if !ok || !sameSteps(part, []impl.Step{axiom(2)}) {
		t.Fatal("SubProof at 1", part, ok)
	}
	part, ok = impl.SubProof([]impl.Step{axiom(1), axiom(2), step(par, 1, -1, 0, 1), step(tensor, 0, 2, 0, 0)}, 2)
	if !ok || !sameSteps(part, []impl.Step{axiom(2), step(par, 0, -1, 0, 1)}) {
		t.Fatal("SubProof at 2", part, ok)
	}
}

// Proves compares the conclusion in its order.
func TestProves(t *testing.T) {
	list := []impl.Step{axiom(1), axiom(2), step(tensor, 0, 1, 0, 0)}
	for text, want := range map[string]bool{
		"~A, ~B, (A*B)": true, "~B, ~A, (A*B)": false, "(A*B), ~A, ~B": false, "~A, ~B": false, "~A, ~B, (A*B), 1": false,
		"~A, ~B, (B*A)": false, "~A, ~B, (A|B)": false, "~A, ~A, (A*B)": false, "": false, "A, ~A": false,
	} {
		if got := impl.Proves(list, mustRead(t, text)); got != want {
			t.Fatalf("Proves(%q) = %v", text, got)
		}
	}
	eachBroken := func(q impl.Seq) {
		if impl.Proves(list, q) || impl.Proves(list[:1], q) {
			t.Fatal("Proves of no sequent", q.Forms)
		}
	}
	brokenSeqs(eachBroken)
	for _, trees := range overLimits() {
		eachBroken(seqOfTrees(trees))
	}
}

// wantError compares what CheckProof returns with a code and an index, and checks the other functions.
func wantError(t *testing.T, what string, list []impl.Step, code, at int64) {
	t.Helper()
	all, gotCode, gotAt := impl.CheckProof(list)
	if gotCode != code || gotAt != at || code != codeOk && len(all) != 0 || code == codeOk && len(all) != len(list) {
		t.Fatalf("%s: CheckProof = %v, %d, %d, want %d, %d of%s", what, all, gotCode, gotAt, code, at, describe(list))
	}
	checkProof(t, list)
}

// A proof has 1 to 40 steps.
func TestNumberOfSteps(t *testing.T) {
	wantError(t, "nil", nil, codeSize, -1)
	wantError(t, "no steps", []impl.Step{}, codeSize, -1)
	for count := 1; count <= 45; count++ {
		code, at := codeOk, int64(-1)
		if count > 40 {
			code = codeSize
		}
		list := padded([]impl.Step{axiom(1)}, count)
		wantError(t, "a chain", list, code, at)
		if height := impl.HeightOf(list); count <= 40 && height != int64(count) {
			t.Fatal("HeightOf a chain", count, height)
		}
	}
	// Twenty axioms, of which all but the first one are cut with the steps before.
	list := []impl.Step{axiom(1)}
	for len(list) < 39 {
		list = append(list, axiom(1), step(cut, int64(len(list))-1, int64(len(list)), 1, 0))
	}
	wantError(t, "39 steps", list, codeOk, -1)
	wantError(t, "40 steps", padded(list, 40), codeOk, -1)
	wantError(t, "41 steps", padded(list, 41), codeSize, -1)
	wantError(t, "41 wrong steps", make([]impl.Step, 41), codeSize, -1)
	wantError(t, "40 wrong steps", make([]impl.Step, 40), codeRule, 0)
	wantError(t, "1000 axioms", slices.Repeat([]impl.Step{axiom(1)}, 1000), codeSize, -1)
	wantError(t, "40 axioms", slices.Repeat([]impl.Step{axiom(1)}, 40), codeUse, 0)
}

// fittingProof returns a proof whose last step has a rule.
func fittingProof(rule int64) []impl.Step {
	for _, list := range chosenProofs() {
		if list[len(list)-1].Rule == rule && len(list) < 39 {
			return list
		}
	}
	return nil
}

// A and B are indices of earlier steps where the table names them, and otherwise -1.
func TestPremisesInProofs(t *testing.T) {
	for _, rule := range allRules {
		list := fittingProof(rule)
		last := int64(len(list)) - 1
		wantError(t, "a fitting proof", list, codeOk, -1)
		for _, at := range append([]int64{-2, -3, last, last + 1, last + 2, 39, 40, 41, 1<<32 - 1, 1 << 32, -1<<32 - 1, math.MinInt64 + 1}, oddIndices...) {
			changed := slices.Clone(list)
			if at != -1 || rows[rule].premises > 0 {
				changed[last].A = at
				wantError(t, "A", changed, codePremise, last)
			}
			changed = slices.Clone(list)
			if at != -1 || rows[rule].premises > 1 {
				changed[last].B = at
				wantError(t, "B", changed, codePremise, last)
			}
		}
		// An earlier step where the table names no premise.
		for at := range last {
			changed := slices.Clone(list)
			changed[last].B = at
			if rows[rule].premises < 2 {
				wantError(t, "B of a rule without it", changed, codePremise, last)
			}
			wantError(t, "A of an axiom", append(slices.Clone(list), step(ax, at, -1, 0, 0, 1)), codePremise, last+1)
			wantError(t, "B of RuOne", append(slices.Clone(list), step(one, -1, at, 0, 0)), codePremise, last+1)
		}
		// The step after the last one, although it is a correct step.
		later := append(slices.Clone(list), axiom(1))
		later[last].A = last + 1
		wantError(t, "A is a later step", later, codePremise, last)
	}
}

// Every step but the last one is a premise exactly once.
func TestUses(t *testing.T) {
	wantError(t, "the first of two", []impl.Step{axiom(1), axiom(2)}, codeUse, 0)
	wantError(t, "no premise", []impl.Step{axiom(1), axiom(2), step(par, 0, -1, 0, 1)}, codeUse, 1)
	wantError(t, "twice by one step", []impl.Step{axiom(1), step(tensor, 0, 0, 0, 0)}, codeUse, 0)
	wantError(t, "twice by one step, with", []impl.Step{axiom(1), step(with, 0, 0, 0, 0)}, codeUse, 0)
	wantError(t, "twice by one step, cut", []impl.Step{axiom(1), axiom(1), step(cut, 1, 1, 0, 1), step(tensor, 0, 2, 0, 0)}, codeUse, 1)
	wantError(t, "twice by two steps", []impl.Step{axiom(1), step(par, 0, -1, 0, 1), step(par, 0, -1, 1, 0), step(tensor, 1, 2, 0, 0)}, codeUse, 0)
	wantError(t, "the first of several", []impl.Step{axiom(1), axiom(1), step(tensor, 1, 1, 0, 0), axiom(2), step(tensor, 0, 2, 0, 0)}, codeUse, 1)
	wantError(t, "not used, then twice", []impl.Step{axiom(1), axiom(1), step(tensor, 1, 1, 0, 0)}, codeUse, 0)
	wantError(t, "twice, then not used", []impl.Step{axiom(1), step(tensor, 0, 0, 0, 0), axiom(1)}, codeUse, 0)
	wantError(t, "three times", []impl.Step{axiom(1), step(tensor, 0, 0, 0, 0), step(tensor, 0, 1, 0, 0)}, codeUse, 0)
	wantError(t, "only the last but one", []impl.Step{axiom(1), step(par, 0, -1, 0, 1), step(one, -1, -1, 0, 0)}, codeUse, 1)
}

// From one list to the next, only the fault is repaired that decides; so the conditions of the later codes hold as well.
func TestOrderOfErrorsInProofs(t *testing.T) {
	ten := []impl.Step{axiom(1), step(bot, 0, -1, 0, 0)}
	for len(ten) < 9 {
		ten = append(ten, step(bot, int64(len(ten))-1, -1, 0, 0))
	}
	last := func(s impl.Step) []impl.Step { return append(slices.Clone(ten), s) }
	tooMany := append(last(step(15, 9, 9, 10, 0, 11)), slices.Repeat([]impl.Step{axiom(1)}, 31)...)
	wantError(t, "too many steps, wrong rule", tooMany, codeSize, -1)
	wantError(t, "wrong rule, no premise", last(step(15, 9, 9, 10, 0, 11)), codeRule, 9)
	wantError(t, "no premise, wrong field", last(step(cut, 9, 0, 10, 9, 11)), codePremise, 9)
	wantError(t, "no second premise, wrong field", last(step(cut, 0, 9, 10, 9, 11)), codePremise, 9)
	wantError(t, "second premise too many, wrong field", last(step(par, 0, 0, 10, 10, 11)), codePremise, 9)
	wantError(t, "wrong field, no position", last(step(cut, 8, 8, 10, 9, 11)), codeField, 9)
	wantError(t, "no position, too many formulas", last(step(cut, 8, 8, 10, 9)), codePosition, 9)
	wantError(t, "not dual, too many formulas", last(step(cut, 8, 8, 0, 0)), codeMatch, 9)
	wantError(t, "too many formulas, used twice", last(step(cut, 8, 8, 0, 1)), codeSize, 9)
	wantError(t, "used twice", []impl.Step{axiom(1), step(cut, 0, 0, 0, 1)}, codeUse, 0)
	wantError(t, "equal positions, no OpQuest", []impl.Step{axiom(1), step(con, 0, -1, 0, 0)}, codePosition, 1)
	wantError(t, "no OpQuest, not used", []impl.Step{axiom(1), axiom(1), step(con, 0, -1, 0, 1)}, codeMatch, 2)

	long := bangs(24)
	wantError(t, "no position, other context", []impl.Step{axiom(long...), axiom(1), step(with, 0, 1, 2, 0)}, codePosition, 2)
	wantError(t, "other context, too long", []impl.Step{axiom(long...), axiom(1), step(with, 0, 1, 0, 0)}, codeContext, 2)
	wantError(t, "no OpQuest, too long", []impl.Step{axiom(17, 17, 1), axiom(long...), step(prom, 1, -1, 1, 0)}, codeContext, 2)
	wantError(t, "too long, not used", []impl.Step{axiom(1), axiom(long...), step(prom, 1, -1, 0, 0)}, codeSize, 2)
	wantError(t, "not used", []impl.Step{axiom(1), axiom(long[1:]...), step(prom, 1, -1, 0, 0)}, codeUse, 0)
}

// The first wrong step decides, whatever its code; uses are counted only after all steps.
func TestFirstWrongStep(t *testing.T) {
	wrong := map[int64]impl.Step{
		codeRule: step(15, -1, -1, 0, 0), codePremise: step(par, 40, -1, 0, 1), codeField: step(ax, -1, -1, 0, 0, 11), codePosition: step(par, 0, -1, 0, 2),
		codeMatch: step(con, 0, -1, 0, 1), codeContext: step(prom, 0, -1, 0, 0), codeSize: step(weak, 0, -1, 0, 0, bangs(24)...),
	}
	for code, first := range wrong {
		for _, second := range wrong {
			wantError(t, "two wrong steps", []impl.Step{axiom(1), first, second}, code, 1)
			wantError(t, "two wrong steps, apart", []impl.Step{axiom(1), first, axiom(1), second}, code, 1)
		}
		wantError(t, "a wrong step after unused ones", []impl.Step{axiom(1), axiom(1), first}, code, 2)
		wantError(t, "a wrong step after twice used ones", []impl.Step{axiom(1), step(tensor, 0, 0, 0, 0), step(par, 0, -1, 0, 1), first, axiom(1)}, code, 3)
		wantError(t, "a wrong step before one more", append(padded([]impl.Step{axiom(1)}, 39), first), code, 39)
		wantError(t, "a wrong step in a list that is too long", append(padded([]impl.Step{axiom(1)}, 40), first), codeSize, -1)
	}
	delete(wrong, codeRule)
	for _, s := range []impl.Step{wrong[codePremise], wrong[codePosition], wrong[codeMatch], wrong[codeContext], wrong[codeSize]} {
		wantError(t, "a first step with a premise", []impl.Step{s, axiom(1)}, codePremise, 0)
	}
}

// A Form that is no formula and positions outside, in the last step of a proof with each rule.
func TestFieldsInProofs(t *testing.T) {
	for _, rule := range allRules {
		list := fittingProof(rule)
		last := int64(len(list)) - 1
		for _, form := range invalidLists() {
			if len(form) == 0 && !rows[rule].form {
				continue
			}
			changed := slices.Clone(list)
			changed[last].Form = form
			wantError(t, "Form", changed, codeField, last)
		}
		for _, at := range append([]int64{10, 11, math.MinInt64 + 1}, oddIndices...) {
			want := map[bool]int64{true: codePosition, false: codeField}
			changed := slices.Clone(list)
			changed[last].I = at
			wantError(t, "I", changed, want[rows[rule].i], last)
			changed = slices.Clone(list)
			changed[last].J = at
			wantError(t, "J", changed, want[rows[rule].j], last)
		}
		for _, odd := range oddSymbols {
			if _, known := rows[odd]; !known {
				changed := slices.Clone(list)
				changed[last].Rule = odd
				wantError(t, "Rule", changed, codeRule, last)
			}
		}
	}
}

// wantFits checks a list of correct steps, of which the last one has the code codeSize if its conclusion does not fit.
func wantFits(t *testing.T, what string, list []impl.Step, fits bool) {
	t.Helper()
	if fits {
		wantError(t, what, list, codeOk, -1)
	} else {
		wantError(t, what, list, codeSize, int64(len(list))-1)
	}
}

// A conclusion has at most ten formulas.
func TestLimitOfConclusionsInProofs(t *testing.T) {
	list := []impl.Step{axiom(1)}
	for len(list) < 9 {
		list = append(list, step(bot, int64(len(list))-1, -1, 0, 0))
		wantFits(t, "RuBot", list, true)
	}
	wantFits(t, "eleven formulas by RuBot", append(list[:9:9], step(bot, 8, -1, 0, 0)), false)
	wantFits(t, "eleven formulas by RuWeak", append(list[:9:9], step(weak, 8, -1, 0, 0, 1)), false)
	wantFits(t, "ten formulas by RuTensor", append(list[:8:8], axiom(1), step(tensor, 7, 8, 0, 0)), true)
	wantFits(t, "eleven formulas by RuTensor", append(list[:9:9], axiom(1), step(tensor, 8, 9, 0, 0)), false)
	wantFits(t, "ten formulas by RuCut", append(list[:9:9], axiom(1), step(cut, 8, 9, 0, 1)), true)
	wantFits(t, "eleven formulas by RuCut", append(list[:9:9], axiom(1), step(bot, 9, -1, 0, 0), step(cut, 8, 10, 0, 1)), false)
}

// A conclusion has at most 60 symbols: an axiom of twice some symbols, a weakening with eleven, and another one.
func TestLimitOfSymbolsInProofs(t *testing.T) {
	for size := 1; size <= 24; size++ {
		list := []impl.Step{axiom(bangs(size)...), step(weak, 0, -1, 0, 0, bangs(10)...)}
		wantFits(t, "one weakening", list, true)
		for more := 1; more <= 23; more++ {
			wantFits(t, "two weakenings", append(list[:2:2], step(weak, 1, -1, 0, 0, bangs(more)...)), 2*size+11+1+more <= 60)
		}
	}
}

// A formula has at most 24 symbols.
func TestLimitOfFormulasInProofs(t *testing.T) {
	for size := 1; size <= 24; size++ {
		f := axiom(bangs(size)...)
		wantFits(t, "RuWeak", []impl.Step{axiom(1), step(weak, 0, -1, 0, 0, bangs(size)...)}, size < 24)
		wantFits(t, "RuDer", []impl.Step{f, step(der, 0, -1, 0, 0)}, size < 24)
		if size > 1 {
			wantFits(t, "RuProm", []impl.Step{f, step(prom, 0, -1, 0, 0)}, size < 24)
		}
		wantFits(t, "RuPar", []impl.Step{f, step(par, 0, -1, 0, 1)}, 2*size < 24)
		for other := 1; other <= 24; other++ {
			fits := size+other < 24
			wantFits(t, "RuPlusL", []impl.Step{f, step(plusL, 0, -1, 0, 0, bangs(other)...)}, fits)
			wantFits(t, "RuPlusR", []impl.Step{f, step(plusR, 0, -1, 1, 0, bangs(other)...)}, fits)
			wantFits(t, "RuTensor", []impl.Step{f, axiom(bangs(other)...), step(tensor, 0, 1, 0, 0)}, fits && size+other+1+size+other <= 60)
		}
		wantFits(t, "RuWith", []impl.Step{f, f, step(with, 0, 1, 1, 1)}, 2*size < 24)
	}
}

// changedSteps calls visit with copies of a proof in which one field of a step has another value, or steps are missing, doubled or exchanged.
func changedSteps(list []impl.Step, visit func([]impl.Step)) {
	for k := range list {
		change := func(set func(s *impl.Step)) {
			changed := slices.Clone(list)
			set(&changed[k])
			visit(changed)
		}
		for n := int64(-2); n <= 16; n++ {
			change(func(s *impl.Step) { s.Rule = n })
			change(func(s *impl.Step) { s.I = n })
			change(func(s *impl.Step) { s.J = n })
		}
		for n := int64(-2); n <= int64(len(list))+1; n++ {
			change(func(s *impl.Step) { s.A = n })
			change(func(s *impl.Step) { s.B = n })
		}
		for _, form := range [][]int64{nil, {1}, {2}, {-1}, {18, 1}, {11, 1}, {1, 1}, bangs(23), bangs(24), bangs(25)} {
			change(func(s *impl.Step) { s.Form = form })
		}
		visit(slices.Delete(slices.Clone(list), k, k+1))
		visit(slices.Insert(slices.Clone(list), k, list[k]))
		visit(slices.Insert(slices.Clone(list), k, axiom(1)))
		visit(list[:k])
		visit(list[k:])
		if k > 0 {
			changed := slices.Clone(list)
			changed[k-1], changed[k] = changed[k], changed[k-1]
			visit(changed)
		}
	}
}

func TestChangedProofs(t *testing.T) {
	counts := map[int64]int{}
	for n, list := range someProofs() {
		if n%40 == 0 || n < 26 {
			changedSteps(list, func(changed []impl.Step) { counts[checkProof(t, changed)]++ })
		}
	}
	for code := codeOk; code <= codeUse; code++ {
		if counts[code] < 30 {
			t.Fatal("too few lists with the code", code, counts[code])
		}
	}
}

// guardedSteps returns a list of steps with filled spare capacity behind the list and behind each Form, and a function that reports
// whether anything changed, the places of the formulas in memory included.
func guardedSteps(list []impl.Step) ([]impl.Step, func() bool) {
	var whole []impl.Step
	var inner []func() bool
	for _, s := range append(slices.Clone(list), step(spare, spare, spare, 1, 2, spare), step(spare, 3, 4, 5, 6)) {
		kept, changed := guardedStep(s)
		whole, inner = append(whole, kept), append(inner, changed)
	}
	before := slices.Clone(whole)
	return whole[:len(list)], func() bool {
		for k, changed := range inner {
			if changed() || !sameStep(whole[k], before[k]) || &whole[k].Form[:1][0] != &before[k].Form[:1][0] {
				return true
			}
		}
		return false
	}
}

// listsOfSteps are proofs and other lists for the tests of memory.
func listsOfSteps() [][]impl.Step {
	out := append(someProofs()[:90], nil, []impl.Step{}, []impl.Step{axiom(1), axiom(2)}, []impl.Step{axiom(11)}, padded([]impl.Step{axiom(1)}, 41))
	for _, rule := range allRules {
		list := slices.Clone(fittingProof(rule))
		list[len(list)-1].Form = []int64{11, 1}
		out = append(out, list, append(list, list...))
	}
	return out
}

// checkSeqsUnshared overwrites each slice of what CheckProof returns; nothing else changes then.
func checkSeqsUnshared(t *testing.T, list []impl.Step, changed func() bool) {
	t.Helper()
	want, _, _ := wantCheck(list)
	for k := range want {
		for i := -1; i < len(want[k].Forms); i++ {
			got, _, _ := impl.CheckProof(list)
			if i >= 0 {
				overwrite(got[k].Forms[i])
				got[k].Forms[i] = want[k].Forms[i]
			} else {
				for whole, n := got[k].Forms[:cap(got[k].Forms)], 0; n < cap(got[k].Forms); n++ {
					whole[n] = []int64{spare}
				}
				got[k].Forms = want[k].Forms
			}
			if changed() || !sameSeqs(got, want) {
				t.Fatalf("the sequent %d of CheckProof shares memory, in%s", k, describe(list))
			}
		}
	}
}

// checkStepsUnshared overwrites each slice of what a call returns; nothing else changes then.
func checkStepsUnshared(t *testing.T, what string, call func() ([]impl.Step, bool), want []impl.Step, changed func() bool) {
	t.Helper()
	for n := range want {
		got, ok := call()
		if !ok || !sameSteps(got, want) || changed() {
			t.Fatalf("%s = %v with%s\ninstead of%s", what, ok, describe(got), describe(want))
		}
		overwrite(got[n].Form)
		got[n].Form = want[n].Form
		if changed() || !sameSteps(got, want) {
			t.Fatalf("the step %d of %s shares memory, in%s", n, what, describe(want))
		}
	}
	got, _ := call()
	for whole, n := got[:cap(got)], 0; n < cap(got); n++ {
		whole[n] = step(spare, spare, spare, 1, 2)
	}
	if got, _ := call(); changed() || !sameSteps(got, want) {
		t.Fatalf("the list of %s shares memory, in%s", what, describe(want))
	}
}

// No argument is changed, and no result shares memory with it or within itself.
func TestProofsUnchangedAndUnshared(t *testing.T) {
	for _, list := range listsOfSteps() {
		guardedList, changed := guardedSteps(list)
		code := checkProof(t, guardedList)
		if changed() {
			t.Fatalf("an argument is changed:%s", describe(list))
		}
		if code != codeOk {
			continue
		}
		checkSeqsUnshared(t, guardedList, changed)
		for k := range int64(len(list)) {
			part := func() ([]impl.Step, bool) { return impl.SubProof(guardedList, k) }
			checkStepsUnshared(t, fmt.Sprint("SubProof at ", k), part, partOf(list, k), changed)
		}
		conclusionOf := func(impl.Seq) impl.Seq { q, _ := impl.ConclusionOf(guardedList); return q }
		checkSeqUnshared(t, "ConclusionOf", conclusionOf, impl.Seq{}, changed)
		overwrite(impl.RuleCounts(guardedList))
		if checkProof(t, guardedList); changed() {
			t.Fatalf("an argument is changed:%s", describe(list))
		}
	}
}

// The steps of a list may have one Form in common; those of the result do not.
func TestStepsWithOneForm(t *testing.T) {
	form, changed := guarded([]int64{11, 1, -2})
	list := []impl.Step{
		axiom(form...), axiom(form...), step(tensor, 0, 1, 0, 0), step(plusL, 2, -1, 0, 0), step(plusR, 3, -1, 0, 0), step(weak, 4, -1, 0, 0),
	}
	for _, k := range []int{0, 1, 3, 4, 5} {
		list[k].Form = form
	}
	if code := checkProof(t, list); code != codeOk || changed() {
		t.Fatal("checkProof", code)
	}
	checkSeqsUnshared(t, list, changed)
	for k := range int64(len(list)) {
		part := func() ([]impl.Step, bool) { return impl.SubProof(list, k) }
		checkStepsUnshared(t, fmt.Sprint("SubProof at ", k), part, partOf(list, k), changed)
	}
}

// Proves changes neither the proof nor the sequent.
func TestProvesChangesNothing(t *testing.T) {
	for _, list := range someProofs()[:60] {
		conclusion, _ := impl.ConclusionOf(list)
		q, changed := guardedSeq(conclusion.Forms)
		kept, changedSteps := guardedSteps(list)
		if !impl.Proves(kept, q) || changed() || changedSteps() {
			t.Fatalf("Proves changes an argument:%s", describe(list))
		}
	}
}

// Results stay what they are when the argument is changed afterwards.
func TestProofsKeepNothing(t *testing.T) {
	for _, list := range someProofs()[:90] {
		want, _, _ := wantCheck(list)
		kept, _ := guardedSteps(list)
		all, _, _ := impl.CheckProof(kept)
		part, _ := impl.SubProof(kept, int64(len(kept))-1)
		conclusion, _ := impl.ConclusionOf(kept)
		for k, s := range kept {
			overwrite(s.Form)
			kept[k] = impl.Step{}
		}
		if !sameSeqs(all, want) || !sameSteps(part, list) || !sameForms(conclusion.Forms, want[len(want)-1].Forms) {
			t.Fatalf("a result changes with the argument:%s", describe(list))
		}
	}
}
