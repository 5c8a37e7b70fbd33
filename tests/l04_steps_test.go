package tests

import (
	"fmt"
	"maps"
	"math"
	"slices"
	"strings"
	"testing"

	"loop.example/g00872/impl"
)

func TestConstantsOfProofs(t *testing.T) {
	wantList(t, "rules", []int64{
		impl.RuAx, impl.RuCut, impl.RuTensor, impl.RuPar, impl.RuOne, impl.RuBot, impl.RuWith, impl.RuPlusL, impl.RuPlusR, impl.RuProm, impl.RuDer,
		impl.RuWeak, impl.RuCon, impl.RuSwap,
	}, allRules)
	wantList(t, "codes", []int64{
		impl.CkOk, impl.CkRule, impl.CkPremise, impl.CkField, impl.CkPosition, impl.CkMatch, impl.CkContext, impl.CkSize, impl.CkUse,
	}, []int64{codeOk, codeRule, codePremise, codeField, codePosition, codeMatch, codeContext, codeSize, codeUse})
	if impl.MaxSteps != 40 {
		t.Fatal("MaxSteps", impl.MaxSteps)
	}
}

// wantResult compares what StepResult returns with a code and, for codeOk, with formulas.
func wantResult(t *testing.T, p, q impl.Seq, s impl.Step, forms [][]int64, code int64) {
	t.Helper()
	got, gotCode := impl.StepResult(p, q, s)
	if gotCode != code || !sameForms(got.Forms, forms) {
		t.Fatalf("StepResult(%v, %v, %+v) = %v, %d, want %v, %d", p.Forms, q.Forms, s, got.Forms, gotCode, forms, code)
	}
}

// checkResult compares what StepResult returns with what the tests expect.
func checkResult(t *testing.T, p, q impl.Seq, s impl.Step) int64 {
	t.Helper()
	forms, code := wantStep(p, q, s)
	wantResult(t, p, q, s, forms, code)
	return code
}

// stepCase is a step with the texts of its premises and its conclusion, or with a code.
type stepCase struct {
	p, q string
	s    impl.Step
	want string
	code int64
}

func checkCases(t *testing.T, cases []stepCase) {
	t.Helper()
	for _, c := range cases {
		p, q := mustRead(t, c.p), mustRead(t, c.q)
		got, code := impl.StepResult(p, q, c.s)
		if code != c.code || impl.SeqText(got) != c.want || code != codeOk && len(got.Forms) > 0 {
			t.Fatalf("StepResult(%q, %q, %+v) = %q, %d, want %q, %d", c.p, c.q, c.s, impl.SeqText(got), code, c.want, c.code)
		}
		if checkResult(t, p, q, c.s) != c.code {
			t.Fatalf("wantStep(%q, %q, %+v)", c.p, c.q, c.s)
		}
	}
}

// The conclusions of the table, written out as texts.
func TestConclusionsOfRules(t *testing.T) {
	checkCases(t, []stepCase{
		{"", "", step(ax, -1, -1, 0, 0, 1), "A, ~A", 0},
		{"", "", step(ax, -1, -1, 0, 0, -1), "~A, A", 0},
		{"B", "C", step(ax, 5, 6, 0, 0, 11, 1, 18, -2), "(A*?~B), (~A|!B)", 0},
		{"A, B", "~B, C", step(cut, 0, 1, 1, 0), "A, C", 0},
		{"A, ~B", "C, B, D", step(cut, 0, 1, 1, 1), "A, C, D", 0},
		{"A", "~A", step(cut, 0, 1, 0, 0), "", 0},
		{"A, (B*C)", "(~B|~C)", step(cut, 0, 1, 1, 0), "A", 0},
		{"A, ~A", "B, ~B", step(tensor, 0, 1, 0, 0), "~A, ~B, (A*B)", 0},
		{"A, B, C", "D, E, F", step(tensor, 0, 1, 1, 2), "A, C, D, E, (B*F)", 0},
		{"A", "A", step(tensor, 0, 1, 0, 0), "(A*A)", 0},
		{"A, B, C", "", step(par, 0, -1, 0, 2), "B, (A|C)", 0},
		{"A, B, C", "", step(par, 0, -1, 2, 0), "B, (C|A)", 0},
		{"A, B, C, D", "", step(par, 0, -1, 2, 1), "A, D, (C|B)", 0},
		{"A, B", "", step(one, -1, -1, 0, 0), "1", 0},
		{"A, B", "", step(bot, 0, -1, 0, 0), "A, B, _", 0},
		{"", "", step(bot, 0, -1, 0, 0), "_", 0},
		{"A, B, C", "A, D, C", step(with, 0, 1, 1, 1), "A, C, (B&D)", 0},
		{"A, B, C", "A, C, D", step(with, 0, 1, 1, 2), "A, C, (B&D)", 0},
		{"A", "B", step(with, 0, 1, 0, 0), "(A&B)", 0},
		{"A, B, C", "", step(plusL, 0, -1, 1, 0, 17, 4), "A, C, (B+!D)", 0},
		{"A, B, C", "", step(plusR, 0, -1, 1, 0, 17, 4), "A, C, (!D+B)", 0},
		{"?A, B, ?C", "", step(prom, 0, -1, 1, 0), "?A, ?C, !B", 0},
		{"B", "", step(prom, 0, -1, 0, 0), "!B", 0},
		{"?A, ?B", "", step(prom, 0, -1, 0, 0), "?B, !?A", 0},
		{"A, B, C", "", step(der, 0, -1, 0, 0), "B, C, ?A", 0},
		{"A, B", "", step(weak, 0, -1, 0, 0, 11, 1, 2), "A, B, ?(A*B)", 0},
		{"", "", step(weak, 0, -1, 0, 0, 13), "?1", 0},
		{"?A, B, ?A, C", "", step(con, 0, -1, 0, 2), "B, C, ?A", 0},
		{"?A, B, ?A, C", "", step(con, 0, -1, 2, 0), "B, C, ?A", 0},
		{"?A, ?B, ?A, ?A", "", step(con, 0, -1, 3, 0), "?B, ?A, ?A", 0},
		{"A, B, C, D", "", step(swap, 0, -1, 1, 3), "A, D, C, B", 0},
		{"A, A", "", step(swap, 0, -1, 0, 1), "A, A", 0},
	})
}

// The conditions of the table, each broken in several ways.
func TestConditionsOfRules(t *testing.T) {
	checkCases(t, []stepCase{
		{"A", "A", step(cut, 0, 1, 0, 0), "", codeMatch},
		{"A", "~B", step(cut, 0, 1, 0, 0), "", codeMatch},
		{"A, ~A", "~A, A", step(cut, 0, 1, 0, 1), "", codeMatch},
		{"(A*B)", "(~B|~A)", step(cut, 0, 1, 0, 0), "", codeMatch},
		{"!A", "!~A", step(cut, 0, 1, 0, 0), "", codeMatch},
		{"1", "1", step(cut, 0, 1, 0, 0), "", codeMatch},
		{"A, A", "", step(con, 0, -1, 0, 1), "", codeMatch},
		{"!A, !A", "", step(con, 0, -1, 0, 1), "", codeMatch},
		{"?A, ?B", "", step(con, 0, -1, 0, 1), "", codeMatch},
		{"?A, !A", "", step(con, 0, -1, 0, 1), "", codeMatch},
		{"!A, ?A", "", step(con, 0, -1, 0, 1), "", codeMatch},
		{"A, B", "C, B", step(with, 0, 1, 0, 1), "", codeContext},
		{"A, B, C", "A, C, B", step(with, 0, 1, 0, 0), "", codeContext},
		{"A", "A, B", step(with, 0, 1, 0, 0), "", codeContext},
		{"A, B", "A", step(with, 0, 1, 0, 0), "", codeContext},
		{"A, B", "A, ~B", step(with, 0, 1, 0, 0), "", codeContext},
		{"A, B", "", step(prom, 0, -1, 0, 0), "", codeContext},
		{"?A, B, !A", "", step(prom, 0, -1, 1, 0), "", codeContext},
		{"!A, B, ?A", "", step(prom, 0, -1, 1, 0), "", codeContext},
		{"?A, ?B, C", "", step(prom, 0, -1, 0, 0), "", codeContext},
		{"?A, B, _", "", step(prom, 0, -1, 1, 0), "", codeContext},
		{"?A, B, (?A*?A)", "", step(prom, 0, -1, 1, 0), "", codeContext},
		{"A, B", "", step(par, 0, -1, 0, 0), "", codePosition},
		{"A, B", "", step(par, 0, -1, 1, 1), "", codePosition},
		{"?A, ?A", "", step(con, 0, -1, 1, 1), "", codePosition},
		{"?A", "", step(con, 0, -1, 0, 0), "", codePosition},
		{"A, B", "", step(swap, 0, -1, 0, 0), "", codePosition},
		{"A, B", "", step(swap, 0, -1, 1, 1), "", codePosition},
		{"A, B", "", step(swap, 0, -1, 1, 0), "", codePosition},
		{"A, B, C", "", step(swap, 0, -1, 2, 1), "", codePosition},
	})
}

// smallSequents are sequents between which many conditions hold and many do not.
func smallSequents(t *testing.T) []impl.Seq {
	t.Helper()
	var out []impl.Seq
	for _, text := range []string{"", "A", "A, ~A", "~A, A", "?A, ?A", "?A, A, ?A", "?A, A, ?B", "!A, ?~A", "(A*B), (~A|~B)", "1, _", "A, B, A, ~B"} {
		out = append(out, mustRead(t, text))
	}
	return append(out, seqOf(slices.Repeat([][]int64{{1}}, 10)...), seqOf(bangs(24), []int64{1}), seqOf(bangs(24), bangs(24), bangs(12)), seqOf([]int64{9}))
}

// Every rule on all pairs of the small sequents, with positions inside and outside.
func TestRulesOnSmallSequents(t *testing.T) {
	counts := map[[2]int64]int{}
	sequents := smallSequents(t)
	for rule := int64(0); rule <= 15; rule++ {
		for _, p := range sequents {
			for n, q := range sequents {
				if n%7 > 0 && rows[rule].premises < 2 {
					continue
				}
				for _, form := range [][]int64{nil, {1}, bangs(23), bangs(24), {11, 1}} {
					for i := int64(-1); i <= 3; i++ {
						for j := int64(-1); j <= 3; j++ {
							counts[[2]int64{rule, checkResult(t, p, q, step(rule, -1, -1, i, j, form...))}]++
						}
					}
				}
			}
		}
	}
	for _, rule := range allRules {
		wantCodes := []int64{codeOk, codeField}
		if r := rows[rule]; r.premises > 0 {
			wantCodes = append(wantCodes, codePremise)
			if r.i {
				wantCodes = append(wantCodes, codePosition)
			}
		}
		for _, code := range wantCodes {
			if counts[[2]int64{rule, code}] == 0 {
				t.Fatal("no case for rule and code", rule, code)
			}
		}
	}
}

// fittingCase returns a correct step of each rule, with its premises.
func fittingCase(rule int64) (impl.Seq, impl.Seq, impl.Step) {
	a, b, quest := []int64{1}, []int64{-1}, []int64{18, 1}
	switch rule {
	case ax:
		return impl.Seq{}, impl.Seq{}, step(ax, -1, -1, 0, 0, 1)
	case weak:
		return seqOf(a, b), impl.Seq{}, step(weak, 0, -1, 0, 0, 1)
	case plusL, plusR:
		return seqOf(a, b), impl.Seq{}, step(rule, 0, -1, 1, 0, 1)
	case cut:
		return seqOf(a, b), seqOf(a, b), step(cut, 0, 1, 0, 1)
	case par, swap:
		return seqOf(a, b), impl.Seq{}, step(rule, 0, -1, 0, 1)
	case prom, der:
		return seqOf(quest, b), impl.Seq{}, step(rule, 0, -1, 1, 0)
	case con:
		return seqOf(quest, quest), impl.Seq{}, step(con, 0, -1, 0, 1)
	}
	return seqOf(a, b), seqOf(a, b), step(rule, 0, 1, 0, 0)
}

func TestFittingCases(t *testing.T) {
	for _, rule := range allRules {
		p, q, s := fittingCase(rule)
		if code := checkResult(t, p, q, s); code != codeOk {
			t.Fatal("a step that is correct", rule, code)
		}
	}
}

func TestOtherRules(t *testing.T) {
	for _, rule := range append([]int64{-1, -14, 15, 16, 99, 1<<32 + 1, 1<<8 + 4}, oddSymbols...) {
		if _, known := rows[rule]; known {
			continue
		}
		for _, good := range allRules {
			p, q, s := fittingCase(good)
			s.Rule = rule
			wantResult(t, p, q, s, nil, codeRule)
			wantResult(t, impl.Seq{}, impl.Seq{}, s, nil, codeRule)
		}
	}
}

// A and B are not examined by StepResult.
func TestPremiseIndicesIgnored(t *testing.T) {
	for _, rule := range allRules {
		p, q, s := fittingCase(rule)
		for _, a := range append([]int64{-1, 0, 1, 39, 40}, oddIndices...) {
			for _, b := range append([]int64{-1, 0, 1, 39, 40}, oddIndices...) {
				s.A, s.B = a, b
				if checkResult(t, p, q, s) != codeOk {
					t.Fatal("A or B is examined", rule, a, b)
				}
			}
		}
	}
}

// A Form that is no formula is rejected by every rule; a formula only where the table names none.
func TestFormField(t *testing.T) {
	for _, rule := range allRules {
		p, q, s := fittingCase(rule)
		for _, form := range invalidLists() {
			s.Form = form
			want := codeField
			if len(form) == 0 && !rows[rule].form {
				want = codeOk
			}
			if got := checkResult(t, p, q, s); got != want {
				t.Fatal("code for a Form that is no formula", rule, form, got)
			}
		}
		for _, tr := range someTrees()[:700] {
			s.Form = tr.list()
			if got := checkResult(t, p, q, s); (got == codeField) == rows[rule].form {
				t.Fatal("code for a Form that is a formula", rule, s.Form, got)
			}
		}
	}
}

// I and J that the table names are positions, the others are 0.
func TestPositionFields(t *testing.T) {
	for _, rule := range allRules {
		p, q, s := fittingCase(rule)
		places := append([]int64{0, 1, 2, 3, 9, 10, 1<<32 + 1, 1 << 8, -1 << 32}, oddIndices...)
		for _, i := range places {
			for _, j := range places {
				s.I, s.J = i, j
				checkResult(t, p, q, s)
			}
		}
		for _, out := range append([]int64{2, 3, math.MinInt64 + 1}, oddIndices...) {
			want := map[bool]int64{true: codePosition, false: codeField}
			_, _, s := fittingCase(rule)
			s.I = out
			wantResult(t, p, q, s, nil, want[rows[rule].i])
			_, _, s = fittingCase(rule)
			s.J = out
			wantResult(t, p, q, s, nil, want[rows[rule].j])
		}
	}
}

// With two premises of different lengths, I belongs to the first one and J to the second one.
func TestPositionsInPremises(t *testing.T) {
	a, b := []int64{1}, []int64{-1}
	short, long := seqOf(a), seqOf(b, b, b)
	for i := int64(-1); i <= 4; i++ {
		for j := int64(-1); j <= 4; j++ {
			want := codeOk
			if i != 0 || j < 0 || j > 2 {
				want = codePosition
			}
			if got := checkResult(t, short, long, step(tensor, 0, 1, i, j)); got != want {
				t.Fatal("RuTensor", i, j, got)
			}
			if got := checkResult(t, short, long, step(cut, 0, 1, i, j)); got != want {
				t.Fatal("RuCut", i, j, got)
			}
			if got := checkResult(t, long, short, step(cut, 0, 1, j, i)); got != want {
				t.Fatal("RuCut", j, i, got)
			}
			// J of a rule with one premise is no position in the other sequent.
			checkResult(t, short, long, step(par, 0, 1, i, j))
			checkResult(t, long, short, step(swap, 0, 1, i, j))
		}
	}
}

// Premises that are not valid are rejected by the rules that have them, and ignored by the others.
func TestInvalidPremises(t *testing.T) {
	check := func(bad impl.Seq) {
		for _, rule := range allRules {
			p, q, s := fittingCase(rule)
			forms, _ := wantStep(p, q, s)
			wantBad := func(p, q impl.Seq, isPremise bool) {
				if isPremise {
					wantResult(t, p, q, s, nil, codePremise)
				} else {
					wantResult(t, p, q, s, forms, codeOk)
				}
			}
			wantBad(bad, q, rows[rule].premises > 0)
			wantBad(p, bad, rows[rule].premises > 1)
			wantBad(bad, bad, rows[rule].premises > 0)
		}
	}
	brokenSeqs(check)
	for _, trees := range overLimits() {
		check(seqOfTrees(trees))
	}
}

// stage is a step with its premises, and the code that it yields.
type stage struct {
	p, q string
	s    impl.Step
	code int64
}

// readAny returns the sequent of a text, or one that is not valid.
func readAny(t *testing.T, text string) impl.Seq {
	t.Helper()
	if text == "bad" {
		return seqOf([]int64{1}, []int64{11, 1})
	}
	return mustRead(t, text)
}

// Each chain begins with a step at which everything is wrong that can be wrong at once. From one stage to the next, only the fault is
// repaired whose code the stage yields; so at each stage the conditions of all later codes of the chain hold as well, and the first one
// decides. No rule has both a condition of CkMatch and one of CkContext.
func TestOrderOfErrors(t *testing.T) {
	long, most := strings.Repeat("!", 23)+"A", "!"+strings.Repeat("?", 22)+"~A"
	quest := strings.Repeat("?", 23) + "A"
	ten := strings.Repeat("B, ", 9) + "A"
	for name, chain := range map[string][]stage{
		"ax": {
			{"bad", "bad", step(15, -1, -1, 1, 0, 11), codeRule}, {"bad", "bad", step(ax, -1, -1, 1, 0, 11), codeField},
			{"bad", "bad", step(ax, -1, -1, 0, 0, 11), codeField}, {"bad", "bad", step(ax, -1, -1, 0, 0, 1), codeOk},
		},
		"one": {
			{"bad", "bad", step(0, -1, -1, 0, 1, 1), codeRule}, {"bad", "bad", step(one, -1, -1, 0, 1, 1), codeField}, {"bad", "bad", step(one, -1, -1, 0, 0), codeOk},
		},
		"cut": {
			{"bad", ten, step(-1, 0, 1, 9, 10, 1), codeRule}, {"bad", ten, step(cut, 0, 1, 9, 10, 1), codePremise},
			{ten, ten, step(cut, 0, 1, 9, 10, 1), codeField}, {ten, ten, step(cut, 0, 1, 9, 10), codePosition},
			{ten, ten, step(cut, 0, 1, 9, 9), codeMatch}, {ten, strings.Repeat("B, ", 9) + "~A", step(cut, 0, 1, 9, 9), codeSize},
			{ten, "B, ~A", step(cut, 0, 1, 9, 1), codeOk},
		},
		"cut, second premise": {
			{ten, "bad", step(15, 0, 1, 10, 0, 11), codeRule}, {ten, "bad", step(cut, 0, 1, 10, 0, 11), codePremise},
			{ten, "A, B, C", step(cut, 0, 1, 10, 0, 11), codeField}, {ten, "A, B, C", step(cut, 0, 1, 10, 0), codePosition},
			{ten, "A, B, C", step(cut, 0, 1, 9, 0), codeMatch}, {ten, "~A, B, C", step(cut, 0, 1, 9, 0), codeSize}, {ten, "~A, B", step(cut, 0, 1, 9, 0), codeOk},
		},
		"tensor": {
			{long, "bad", step(15, 0, 1, 0, -1, 1), codeRule}, {long, "bad", step(tensor, 0, 1, 0, -1, 1), codePremise}, {long, "A", step(tensor, 0, 1, 0, -1, 1), codeField},
			{long, "A", step(tensor, 0, 1, 0, -1), codePosition}, {long, "A", step(tensor, 0, 1, 0, 0), codeSize}, {"B", "A", step(tensor, 0, 1, 0, 0), codeOk},
		},
		"with": {
			{"bad", long + ", B", step(0, 0, 1, 0, 2, 1), codeRule}, {"bad", long + ", B", step(with, 0, 1, 0, 2, 1), codePremise},
			{"A, C", long + ", B", step(with, 0, 1, 0, 2, 1), codeField}, {"A, C", long + ", B", step(with, 0, 1, 0, 2), codePosition},
			{"A, C", long + ", B", step(with, 0, 1, 0, 0), codeContext}, {"A, B", long + ", B", step(with, 0, 1, 0, 0), codeSize}, {"A, B", "C, B", step(with, 0, 1, 0, 0), codeOk},
		},
		"par": {
			{"bad", "bad", step(15, 0, -1, 0, 0, 1), codeRule}, {"bad", "bad", step(par, 0, -1, 0, 0, 1), codePremise}, {long + ", A", "bad", step(par, 0, -1, 0, 0, 1), codeField},
			{long + ", A", "bad", step(par, 0, -1, 0, 0), codePosition}, {long + ", A", "bad", step(par, 0, -1, 0, 1), codeSize}, {"B, A", "bad", step(par, 0, -1, 0, 1), codeOk},
		},
		"bot": {
			{"bad", "bad", step(15, 0, -1, 0, 1), codeRule}, {"bad", "bad", step(bot, 0, -1, 0, 1), codePremise}, {ten, "bad", step(bot, 0, -1, 0, 1), codeField},
			{ten, "bad", step(bot, 0, -1, 0, 0), codeSize}, {"A", "bad", step(bot, 0, -1, 0, 0), codeOk},
		},
		"plusL": {
			{"bad", "", step(15, 0, -1, 1, 1, 1), codeRule}, {"bad", "", step(plusL, 0, -1, 1, 1, 1), codePremise}, {long, "", step(plusL, 0, -1, 1, 1, 1), codeField},
			{long, "", step(plusL, 0, -1, 1, 0, 1), codePosition}, {long, "", step(plusL, 0, -1, 0, 0, 1), codeSize}, {"A", "", step(plusL, 0, -1, 0, 0, 1), codeOk},
		},
		"plusR": {
			{"bad", "", step(15, 0, -1, 1, 0), codeRule}, {"bad", "", step(plusR, 0, -1, 1, 0), codePremise}, {long, "", step(plusR, 0, -1, 1, 0), codeField},
			{long, "", step(plusR, 0, -1, 1, 0, 1), codePosition}, {long, "", step(plusR, 0, -1, 0, 0, 1), codeSize}, {"A", "", step(plusR, 0, -1, 0, 0, 1), codeOk},
		},
		"prom": {
			{"bad", "", step(15, 0, -1, 2, 0, 1), codeRule}, {"bad", "", step(prom, 0, -1, 2, 0, 1), codePremise}, {most + ", A", "", step(prom, 0, -1, 2, 0, 1), codeField},
			{most + ", A", "", step(prom, 0, -1, 2, 0), codePosition}, {most + ", A", "", step(prom, 0, -1, 0, 0), codeContext},
			{most + ", ?A", "", step(prom, 0, -1, 0, 0), codeSize}, {"!A, ?A", "", step(prom, 0, -1, 0, 0), codeOk},
		},
		"der": {
			{"bad", "", step(15, 0, -1, 9, 9), codeRule}, {"bad", "", step(der, 0, -1, 9, 9), codePremise}, {long, "", step(der, 0, -1, 9, 9), codeField},
			{long, "", step(der, 0, -1, 9, 0), codePosition}, {long, "", step(der, 0, -1, 0, 0), codeSize}, {"A", "", step(der, 0, -1, 0, 0), codeOk},
		},
		"weak": {
			{"bad", "", step(15, 0, -1, 1, 0, 1), codeRule}, {"bad", "", step(weak, 0, -1, 1, 0, 1), codePremise}, {ten, "", step(weak, 0, -1, 1, 0, 1), codeField},
			{ten, "", step(weak, 0, -1, 0, 0, 1), codeSize}, {"A", "", step(weak, 0, -1, 0, 0, 1), codeOk},
		},
		"con": {
			{"bad", "", step(15, 0, -1, 0, 0, 1), codeRule}, {"bad", "", step(con, 0, -1, 0, 0, 1), codePremise}, {"A, ?A", "", step(con, 0, -1, 0, 0, 1), codeField},
			{"A, ?A", "", step(con, 0, -1, 0, 0), codePosition}, {"A, ?A", "", step(con, 0, -1, 0, 1), codeMatch}, {quest + ", " + quest, "", step(con, 0, -1, 0, 1), codeOk},
		},
		"swap": {
			{"bad", "", step(15, 0, -1, 1, 0, 1), codeRule}, {"bad", "", step(swap, 0, -1, 1, 0, 1), codePremise}, {"A, B", "", step(swap, 0, -1, 1, 0, 1), codeField},
			{"A, B", "", step(swap, 0, -1, 1, 0), codePosition}, {"A, B", "", step(swap, 0, -1, 0, 1), codeOk},
		},
	} {
		for n, st := range chain {
			p, q := readAny(t, st.p), readAny(t, st.q)
			if _, code := impl.StepResult(p, q, st.s); code != st.code {
				t.Fatalf("%s, stage %d: StepResult(%q, %q, %+v) has the code %d, want %d", name, n, st.p, st.q, st.s, code, st.code)
			}
			checkResult(t, p, q, st.s)
		}
	}
}

// wantSizes compares the code of a step with codeOk or codeSize.
func wantSizes(t *testing.T, what string, p, q impl.Seq, s impl.Step, fits bool) {
	t.Helper()
	want := codeSize
	if fits {
		want = codeOk
	}
	if got := checkResult(t, p, q, s); got != want {
		t.Fatalf("%s: StepResult(%v, %v, %+v) has the code %d, want %d", what, p.Forms, q.Forms, s, got, want)
	}
}

// A formula of the conclusion has at most 24 symbols.
func TestLimitOfFormulas(t *testing.T) {
	for size := 1; size <= 24; size++ {
		f := bangs(size)
		p := seqOf(f, []int64{18, 1})
		wantSizes(t, "RuProm", p, impl.Seq{}, step(prom, 0, -1, 0, 0), size < 24)
		wantSizes(t, "RuDer", p, impl.Seq{}, step(der, 0, -1, 0, 0), size < 24)
		wantSizes(t, "RuWeak", p, impl.Seq{}, step(weak, 0, -1, 0, 0, f...), size < 24)
		wantSizes(t, "RuAx", impl.Seq{}, impl.Seq{}, axiom(f...), true)
		for other := 1; other <= 24; other++ {
			g := bangs(other)
			fits := size+other < 24
			wantSizes(t, "RuTensor", seqOf(f), seqOf(g), step(tensor, 0, 1, 0, 0), fits)
			wantSizes(t, "RuWith", seqOf(f), seqOf(g), step(with, 0, 1, 0, 0), fits)
			wantSizes(t, "RuPar", seqOf(f, g), impl.Seq{}, step(par, 0, -1, 0, 1), fits)
			wantSizes(t, "RuPlusL", seqOf(f), impl.Seq{}, step(plusL, 0, -1, 0, 0, g...), fits)
			wantSizes(t, "RuPlusR", seqOf(f), impl.Seq{}, step(plusR, 0, -1, 0, 0, g...), fits)
		}
	}
}

// The conclusion has at most ten formulas.
func TestLimitOfConclusions(t *testing.T) {
	ones := func(count int) [][]int64 { return slices.Repeat([][]int64{{13}}, count) }
	for count := range 11 {
		p := seqOf(ones(count)...)
		wantSizes(t, "RuBot", p, impl.Seq{}, step(bot, 0, -1, 0, 0), count < 10)
		wantSizes(t, "RuWeak", p, impl.Seq{}, step(weak, 0, -1, 0, 0, 1), count < 10)
		if count > 0 {
			wantSizes(t, "RuDer", p, impl.Seq{}, step(der, 0, -1, 0, 0), true)
			wantSizes(t, "RuPlusL", p, impl.Seq{}, step(plusL, 0, -1, 0, 0, 1), true)
			wantSizes(t, "RuWith", p, p, step(with, 0, 1, 0, 0), true)
		}
		for other := range 11 {
			q := seqOf(append(ones(other), []int64{14})...)
			if count == 0 || other == 10 {
				continue
			}
			wantSizes(t, "RuTensor", p, q, step(tensor, 0, 1, 0, 0), count-1+other+1 <= 10)
			wantSizes(t, "RuCut", p, q, step(cut, 0, 1, 0, int64(other)), count-1+other <= 10)
		}
	}
}

// The conclusion has at most 60 symbols in all.
func TestLimitOfSymbols(t *testing.T) {
	for size := 1; size <= 24; size++ {
		for other := 1; other <= 24; other++ {
			f, g := bangs(size), bangs(other)
			p := seqOf(f, g, []int64{1})
			all := size + other + 1
			wantSizes(t, "RuBot", p, impl.Seq{}, step(bot, 0, -1, 0, 0), all+1 <= 60)
			wantSizes(t, "RuWeak", p, impl.Seq{}, step(weak, 0, -1, 0, 0, bangs(11)...), all+12 <= 60)
			wantSizes(t, "RuPlusL", p, impl.Seq{}, step(plusL, 0, -1, 2, 0, bangs(11)...), all+12 <= 60)
			wantSizes(t, "RuPlusR", p, impl.Seq{}, step(plusR, 0, -1, 2, 0, bangs(12)...), all+13 <= 60)
			wantSizes(t, "RuTensor", p, seqOf([]int64{13}, bangs(11)), step(tensor, 0, 1, 2, 0), all+13 <= 60)
			wantSizes(t, "RuWith", p, seqOf(f, g, bangs(11)), step(with, 0, 1, 2, 2), all+12 <= 60)
			wantSizes(t, "RuCut", p, seqOf([]int64{-1}, bangs(13)), step(cut, 0, 1, 2, 0), all+12 <= 60)
			q := seqOf(f, g, bangs(11))
			if all+10 < 60 {
				wantSizes(t, "RuPar", q, impl.Seq{}, step(par, 0, -1, 2, 1), other < 13)
				wantSizes(t, "RuDer", q, impl.Seq{}, step(der, 0, -1, 2, 0), all+11 <= 60)
			}
		}
	}
	for count := 57; count <= 60; count++ {
		quests := slices.Repeat([][]int64{{18, 1}}, 8)
		p := seqOf(append(quests, bangs(20), bangs(count-36))...)
		wantSizes(t, "RuDer", p, impl.Seq{}, step(der, 0, -1, 0, 0), count < 60)
		wantSizes(t, "RuPar", p, impl.Seq{}, step(par, 0, -1, 0, 1), count < 60)
		wantSizes(t, "RuSwap", p, impl.Seq{}, step(swap, 0, -1, 0, 9), true)
		wantSizes(t, "RuCon", p, impl.Seq{}, step(con, 0, -1, 0, 7), true)
		p = seqOf(bangsUnder(18, 19), bangsUnder(18, 19), bangs(count-38))
		wantSizes(t, "RuProm", p, impl.Seq{}, step(prom, 0, -1, 2, 0), count < 60)
	}
}

// bangsUnder returns a formula of count symbols that begins with op.
func bangsUnder(op int64, count int) []int64 { return append([]int64{op}, bangs(count-1)...) }

// guardedStep returns a step whose Form has filled spare capacity, and a function that reports whether Form changed.
func guardedStep(s impl.Step) (impl.Step, func() bool) {
	form, changed := guarded(s.Form)
	s.Form = form
	return s, changed
}

// onePremise calls a step with a sequent as both premises, and returns the conclusion.
func onePremise(s impl.Step) func(impl.Seq) impl.Seq {
	return func(q impl.Seq) impl.Seq {
		out, _ := impl.StepResult(q, q, s)
		return out
	}
}

// No premise and no Form is changed, and the conclusion shares no memory with them or within itself.
func TestStepsUnchangedAndUnshared(t *testing.T) {
	lists := [][][]int64{{{1}, {-1}}, {{18, 1}, {18, 1}, {2}}, {{18, 2}, {18, 2}}, {{13}, {14}, {11, 1, 2}, {-3}}, {}, {{1}}}
	results := 0
	for _, rule := range slices.Sorted(maps.Keys(rows)) {
		for _, forms := range lists {
			for i := range int64(3) {
				for j := range int64(3) {
					plain := step(rule, 0, 0, i, j)
					if rows[rule].form {
						plain.Form = []int64{11, 1, -2}
					}
					s, changedForm := guardedStep(plain)
					name := fmt.Sprintf("StepResult of %+v", plain)
					q, changed := guardedSeq(forms)
					either := func() bool { return changed() || changedForm() }
					checkSeqUnshared(t, name, onePremise(s), q, either)
					packed, changedPacked := packedSeq(forms)
					checkSeqUnshared(t, name, onePremise(s), packed, func() bool { return changedPacked() || changedForm() })
					if len(onePremise(s)(q).Forms) > 0 {
						results++
					}
				}
			}
		}
	}
	if results < 100 {
		t.Fatal("too few steps with a conclusion", results)
	}
}

// Two premises of their own, and a Form that is the memory of a formula of a premise.
func TestPremisesUnchangedAndUnshared(t *testing.T) {
	for _, rule := range allRules {
		p, q, s := fittingCase(rule)
		first, changedFirst := guardedSeq(p.Forms)
		second, changedSecond := guardedSeq(q.Forms)
		if rows[rule].form && len(p.Forms) > 0 {
			s.Form = first.Forms[0]
		}
		changed := func() bool { return changedFirst() || changedSecond() }
		name := fmt.Sprintf("StepResult of %+v", s)
		checkSeqUnshared(t, name, func(p impl.Seq) impl.Seq { out, _ := impl.StepResult(p, second, s); return out }, first, changed)
	}
}
