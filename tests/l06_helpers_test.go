package tests

import (
	"fmt"
	"math"
	"slices"
	"strings"
	"testing"

	"loop.example/g00872/impl"
)

// identityRows are the rows of the table of IdentityProof, read from left to right: a and b stand for the steps of the proofs of the
// operands, and the other words for a step each, with its fields I, J and Form. A step takes its premises from what stands before it and
// is no premise yet.
var identityRows = map[int64]string{
	13: "one bot",
	14: "one bot swap:0:1",
	11: "a b tensor:0:0 par:0:1",
	12: "a b tensor:1:1 par:0:1 swap:0:1",
	16: "a plusl:1:b' b plusr:1:a' with:0:0 swap:0:1",
	15: "a plusl:0:b b plusr:0:a with:0:0",
	17: "a der:1 prom:0 swap:0:1",
	18: "a der:0 prom:0",
}

// wantIdentity is IdentityProof as the tests see it, without the limit of steps.
func wantIdentity(f tree) []impl.Step {
	if len(f.kids) == 0 && f.symbol <= 8 {
		return []impl.Step{axiom(f.symbol)}
	}
	var out []impl.Step
	var open []int64
	for word := range strings.FieldsSeq(identityRows[f.symbol]) {
		if word == "a" || word == "b" {
			out = behind(out, wantIdentity(f.kids[word[0]-'a']))
		} else {
			s := stepOfRow(word, f)
			first := len(open) - rows[s.Rule].premises
			for n, premise := range open[first:] {
				*fieldOf(&s, fieldNames[n]) = premise
			}
			out, open = append(out, s), open[:first]
		}
		open = append(open, int64(len(out))-1)
	}
	return out
}

// stepOfRow returns the step that a word of the row of f stands for, without its premises.
func stepOfRow(word string, f tree) impl.Step {
	parts := strings.Split(word, ":")
	var s impl.Step
	for rule, layout := range layouts {
		if strings.Fields(layout)[0] == parts[0] {
			s = step(rule, -1, -1, 0, 0)
		}
	}
	for n, part := range parts[1:] {
		switch part {
		case "a", "b":
			s.Form = f.kids[part[0]-'a'].list()
		case "a'", "b'":
			s.Form = f.kids[part[0]-'a'].dual().list()
		default:
			fmt.Sscan(part, fieldOf(&s, []string{"I", "J"}[n]))
		}
	}
	return s
}

// behind returns the list with the steps of a proof behind it, whose premises move with them.
func behind(list, proof []impl.Step) []impl.Step {
	out := slices.Clone(list)
	for _, s := range proof {
		if s.A != -1 {
			s.A += int64(len(list))
		}
		if s.B != -1 {
			s.B += int64(len(list))
		}
		out = append(out, s)
	}
	return out
}

// isProof reports whether the tests see a valid proof.
func isProof(list []impl.Step) bool {
	_, code, _ := wantCheck(list)
	return code == codeOk
}

// endOfProof returns the formulas of the conclusion of a valid proof.
func endOfProof(list []impl.Step) [][]int64 {
	all, _, _ := wantCheck(list)
	return all[len(all)-1].Forms
}

// wantAxioms is AxiomForms of a valid proof as the tests see it.
func wantAxioms(list []impl.Step) [][]int64 {
	var out [][]int64
	for _, s := range list {
		if s.Rule == ax {
			out = append(out, s.Form)
		}
	}
	return out
}

// allAtomic reports whether no axiom is of a formula with an operator.
func allAtomic(list []impl.Step) bool {
	for _, f := range wantAxioms(list) {
		if len(f) > 1 || f[0] > 8 {
			return false
		}
	}
	return true
}

// wantExpanded is ExpandedProof of a valid proof as the tests see it, without the limit of steps: the places of the conclusions are
// known from the numbers of steps alone.
func wantExpanded(list []impl.Step) []impl.Step {
	var ends []int64
	end := int64(-1)
	for _, s := range list {
		end++
		if s.Rule == ax {
			end += int64(len(wantIdentity(treeOf(s.Form)))) - 1
		}
		ends = append(ends, end)
	}
	var out []impl.Step
	for _, s := range list {
		if s.Rule == ax {
			out = behind(out, wantIdentity(treeOf(s.Form)))
			continue
		}
		for _, premise := range []*int64{&s.A, &s.B} {
			if *premise >= 0 {
				*premise = ends[*premise]
			}
		}
		out = append(out, s)
	}
	return out
}

// wantExtended is ExtendedProof as the tests see it: nil stands for no result.
func wantExtended(list []impl.Step, s impl.Step) []impl.Step {
	if !isProof(list) || rows[s.Rule].premises != 1 {
		return nil
	}
	return ifProof(append(slices.Clone(list), step(s.Rule, int64(len(list)-1), -1, s.I, s.J, s.Form...)))
}

// wantCombined is CombinedProof as the tests see it: nil stands for no result.
func wantCombined(p, q []impl.Step, s impl.Step) []impl.Step {
	if !isProof(p) || !isProof(q) || rows[s.Rule].premises != 2 {
		return nil
	}
	out := behind(p, q)
	return ifProof(append(out, step(s.Rule, int64(len(p)-1), int64(len(out)-1), s.I, s.J, s.Form...)))
}

func ifProof(list []impl.Step) []impl.Step {
	if isProof(list) {
		return list
	}
	return nil
}

// wantArranged is ArrangedProof as the tests see it: nil stands for no result. Every exchange goes through the positions anew.
func wantArranged(list []impl.Step, q impl.Seq) []impl.Step {
	if !isProof(list) || !isSeq(q) || !sameCounts(endOfProof(list), q.Forms) {
		return nil
	}
	out := slices.Clone(list)
	for forms := slices.Clone(endOfProof(list)); !sameForms(forms, q.Forms); {
		i := 0
		for slices.Equal(forms[i], q.Forms[i]) {
			i++
		}
		j := i + 1
		for !slices.Equal(forms[j], q.Forms[i]) {
			j++
		}
		out = append(out, step(swap, int64(len(out)-1), -1, int64(i), int64(j)))
		forms[i], forms[j] = forms[j], forms[i]
	}
	if len(out) > 40 {
		return nil
	}
	return out
}

// wantProof compares a result with the expected steps, where nil stands for no result, and reports whether there is one. A result must
// have the given conclusion.
func wantProof(t *testing.T, what string, got []impl.Step, ok bool, want []impl.Step, end [][]int64) bool {
	t.Helper()
	if ok != (want != nil) || !sameSteps(got, want) {
		t.Fatalf("%s = %v, with%s\ninstead of%s", what, ok, describe(got), describe(want))
	}
	if !ok {
		return false
	}
	all, code, _ := wantCheck(got)
	if code != codeOk || !impl.ValidProof(got) {
		t.Fatalf("%s is no valid proof:%s", what, describe(got))
	}
	if conclusion, _ := impl.ConclusionOf(got); !sameForms(all[len(all)-1].Forms, end) || !sameForms(conclusion.Forms, end) {
		t.Fatalf("%s has the conclusion %v, want %v, with%s", what, conclusion.Forms, end, describe(got))
	}
	return true
}

// checkIdentity compares IdentityProof of a formula with the table, its conclusion and its axioms, and returns the number of steps.
func checkIdentity(t *testing.T, f tree) int {
	t.Helper()
	steps := wantIdentity(f)
	want := steps
	if len(steps) > 40 {
		want = nil
	}
	got, ok := impl.IdentityProof(f.list())
	if wantProof(t, "IdentityProof of "+f.text(), got, ok, want, [][]int64{f.list(), f.dual().list()}) {
		checkAxioms(t, got)
		if !impl.AtomicAxioms(got) || !slices.Equal(slices.Concat(wantAxioms(got)...), f.leaves()) {
			t.Fatalf("the axioms of IdentityProof of %s are not its leaves:%s", f.text(), describe(got))
		}
	}
	return len(steps)
}

// checkAxioms compares AxiomForms and AtomicAxioms with the expectation, and reports whether the list is a valid proof.
func checkAxioms(t *testing.T, list []impl.Step) bool {
	t.Helper()
	valid := isProof(list)
	var want [][]int64
	if valid {
		want = wantAxioms(list)
	}
	if got := impl.AxiomForms(list); !sameForms(got, want) {
		t.Fatalf("AxiomForms = %v, want %v of%s", got, want, describe(list))
	}
	if got := impl.AtomicAxioms(list); got != (valid && allAtomic(list)) {
		t.Fatalf("AtomicAxioms = %v of%s", got, describe(list))
	}
	return valid
}

// checkExpanded compares ExpandedProof with the expectation, and reports whether there is a result.
func checkExpanded(t *testing.T, list []impl.Step) bool {
	t.Helper()
	var want []impl.Step
	var end [][]int64
	if isProof(list) {
		want, end = ifProof(wantExpanded(list)), endOfProof(list)
	}
	got, ok := impl.ExpandedProof(list)
	wantProof(t, "ExpandedProof of"+describe(list)+"\n", got, ok, want, end)
	if ok && (!allAtomic(got) || !impl.AtomicAxioms(got)) {
		t.Fatalf("ExpandedProof has other axioms than of atoms:%s", describe(got))
	}
	return ok
}

// checkExtended compares ExtendedProof with the expectation, and reports whether there is a result.
func checkExtended(t *testing.T, list []impl.Step, s impl.Step) bool {
	t.Helper()
	want := wantExtended(list, s)
	var end [][]int64
	if want != nil {
		end, _ = wantStep(impl.Seq{Forms: endOfProof(list)}, impl.Seq{}, s)
	}
	got, ok := impl.ExtendedProof(list, s)
	return wantProof(t, fmt.Sprintf("ExtendedProof with %+v", s), got, ok, want, end)
}

// checkCombined compares CombinedProof with the expectation, and reports whether there is a result.
func checkCombined(t *testing.T, p, q []impl.Step, s impl.Step) bool {
	t.Helper()
	want := wantCombined(p, q, s)
	var end [][]int64
	if want != nil {
		end, _ = wantStep(impl.Seq{Forms: endOfProof(p)}, impl.Seq{Forms: endOfProof(q)}, s)
	}
	got, ok := impl.CombinedProof(p, q, s)
	return wantProof(t, fmt.Sprintf("CombinedProof with %+v", s), got, ok, want, end)
}

// checkArranged compares ArrangedProof with the expectation, and reports whether there is a result.
func checkArranged(t *testing.T, list []impl.Step, q impl.Seq) bool {
	t.Helper()
	got, ok := impl.ArrangedProof(list, q)
	return wantProof(t, fmt.Sprintf("ArrangedProof for %v", q.Forms), got, ok, wantArranged(list, q), q.Forms)
}

// mustReadProof returns the proof with a text.
func mustReadProof(t *testing.T, text string) []impl.Step {
	t.Helper()
	list, line := wantReadProof(text)
	if line != 0 || !isProof(list) {
		t.Fatalf("%q is no proof: line %d", text, line)
	}
	return list
}

// noProofs are lists that are no valid proof, each for another reason.
func noProofs() [][]impl.Step {
	return [][]impl.Step{
		nil, {}, {{}}, {axiom(11)}, {axiom()}, {step(15, -1, -1, 0, 0)}, {step(0, -1, -1, 0, 0, 1)}, {step(ax, 0, -1, 0, 0, 1)}, {step(par, 0, -1, 0, 1)},
		{axiom(1), axiom(2)}, {axiom(1), axiom(1), step(par, 0, -1, 0, 1)}, {axiom(1), step(tensor, 0, 0, 0, 0)}, {axiom(1), step(par, 0, -1, 0, 0)},
		{axiom(1), step(par, 0, -1, 0, 2)}, {axiom(1), axiom(1), step(cut, 0, 1, 0, 0)}, {axiom(1), step(prom, 0, -1, 0, 0)}, {axiom(1), step(par, 1, -1, 0, 1)},
		{axiom(bangs(24)...), step(der, 0, -1, 0, 0)}, {axiom(1), step(swap, 0, -1, 0, 1, 1)}, {axiom(1), step(der, 0, -1, 0, 1)}, {axiom(1), step(der, 0, 0, 0, 0)},
		{axiom(1), step(par, 2, -1, 0, 1)}, {axiom(1), step(par, -2, -1, 0, 1)}, {axiom(1), axiom(1), step(cut, 0, 3, 0, 1)}, {axiom(1), axiom(1), step(cut, 0, -1, 0, 1)},
		{axiom(1), step(swap, math.MaxInt64, -1, 0, 1)}, {axiom(1), step(swap, math.MinInt64, -1, 0, 1)}, {axiom(1), step(swap, 0, 40, 0, 1)},
		padded([]impl.Step{axiom(1)}, 41), make([]impl.Step, 40), make([]impl.Step, 1000), slices.Repeat([]impl.Step{axiom(1)}, 40),
	}
}
