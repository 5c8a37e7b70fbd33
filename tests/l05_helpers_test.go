package tests

import (
	"fmt"
	"maps"
	"math"
	"regexp"
	"slices"
	"strings"
	"testing"

	"loop.example/g00872/impl"
)

// layouts are the texts of the table, from which the tests make texts and patterns, so that expected values do not depend on the program.
var layouts = map[int64]string{
	ax: "ax FORM", cut: "cut A B I J", tensor: "tensor A B I J", par: "par A I J", one: "one", bot: "bot A", with: "with A B I J",
	plusL: "plusl A I FORM", plusR: "plusr A I FORM", prom: "prom A I", der: "der A I", weak: "weak A FORM", con: "con A I J", swap: "swap A I J",
}

// fieldNames are the indices of a step in the order of its text.
var fieldNames = []string{"A", "B", "I", "J"}

// fieldOf returns the field with a name.
func fieldOf(s *impl.Step, name string) *int64 {
	return map[string]*int64{"A": &s.A, "B": &s.B, "I": &s.I, "J": &s.J}[name]
}

// hasWord reports whether the text of a rule contains a field.
func hasWord(rule int64, name string) bool {
	return slices.Contains(strings.Fields(layouts[rule])[1:], name)
}

// otherwise is what a field is in the steps whose text does not contain it.
func otherwise(name string) int64 {
	return map[string]int64{"A": -1, "B": -1, "I": 0, "J": 0}[name]
}

// filledLayout is the text of a rule with certain fields, in which the field with a name is value.
func filledLayout(rule int64, name, value string) string {
	words := strings.Fields(layouts[rule])
	for n, word := range words[1:] {
		words[n+1] = map[string]string{"A": "1", "B": "2", "I": "3", "J": "4", "FORM": "B"}[word]
		if word == name {
			words[n+1] = value
		}
	}
	return strings.Join(words, " ")
}

// treeOf returns the formula that is a list, which must be one.
func treeOf(list []int64) tree {
	t := leaf(list[0])
	for at := 1; at < len(list); at = endOf(list, at) {
		t.kids = append(t.kids, treeOf(list[at:endOf(list, at)]))
	}
	return t
}

// textOfForms is the text of a sequent with these formulas.
func textOfForms(forms [][]int64) string {
	var trees []tree
	for _, f := range forms {
		trees = append(trees, treeOf(f))
	}
	return textOfTrees(trees)
}

// wantPlain is PlainStep as the tests see it.
func wantPlain(s impl.Step) bool {
	if _, known := layouts[s.Rule]; !known {
		return false
	}
	for _, name := range fieldNames {
		value := *fieldOf(&s, name)
		if hasWord(s.Rule, name) && (value < 0 || value > 39) || !hasWord(s.Rule, name) && value != otherwise(name) {
			return false
		}
	}
	if hasWord(s.Rule, "FORM") {
		return isForm(s.Form)
	}
	return len(s.Form) == 0
}

// wantStepText is StepText as the tests see it.
func wantStepText(s impl.Step) string {
	if !wantPlain(s) {
		return ""
	}
	words := strings.Fields(layouts[s.Rule])
	for n, word := range words[1:] {
		if word == "FORM" {
			words[n+1] = treeOf(s.Form).text()
		} else {
			words[n+1] = fmt.Sprint(*fieldOf(&s, word))
		}
	}
	return strings.Join(words, " ")
}

// stepPatterns are the layouts as patterns, without the grammar of formulas.
var stepPatterns = patternsOf(layouts)

func patternsOf(layouts map[int64]string) map[int64]*regexp.Regexp {
	out := map[int64]*regexp.Regexp{}
	for rule, layout := range layouts {
		words := strings.Fields(layout)
		for n, word := range words[1:] {
			words[n+1] = "(?P<" + word + ">0|[1-9]|[123][0-9])"
			if word == "FORM" {
				words[n+1] = "(?P<FORM>[^ ]+)"
			}
		}
		out[rule] = regexp.MustCompile(`\A` + strings.Join(words, " ") + `\z`)
	}
	return out
}

// wantReadStep is ReadStep as the tests see it.
func wantReadStep(text string) (impl.Step, bool) {
	for rule, pattern := range stepPatterns {
		match := pattern.FindStringSubmatch(text)
		if match == nil {
			continue
		}
		s := step(rule, -1, -1, 0, 0)
		for n, name := range pattern.SubexpNames() {
			if n > 0 && name != "FORM" {
				fmt.Sscan(match[n], fieldOf(&s, name))
			}
		}
		if hasWord(rule, "FORM") {
			part := match[pattern.SubexpIndex("FORM")]
			if firstMisfit(part) >= 0 || meaningOf(part).text() != part || len(meaningOf(part).list()) > 24 {
				return impl.Step{}, false
			}
			s.Form = meaningOf(part).list()
		}
		return s, true
	}
	return impl.Step{}, false
}

// wantProofText is ProofText as the tests see it.
func wantProofText(list []impl.Step) string {
	out := ""
	for _, s := range list {
		if !wantPlain(s) || len(list) > 40 {
			return ""
		}
		out += wantStepText(s) + "\n"
	}
	return out
}

// wantReadProof is ReadProof as the tests see it: it goes through the pieces between newlines, of which the last one must be empty.
func wantReadProof(text string) ([]impl.Step, int64) {
	if len(text) > 4000 {
		return nil, -1
	}
	pieces := strings.Split(text, "\n")
	last := len(pieces) - 1
	var out []impl.Step
	for n, piece := range pieces[:last] {
		s, ok := wantReadStep(piece)
		if !ok || n >= 40 {
			return nil, int64(n + 1)
		}
		out = append(out, s)
	}
	if pieces[last] != "" {
		return nil, int64(last + 1)
	}
	return out, 0
}

// checkStep compares PlainStep, StepText and ReadStep with the expectation, and reports whether s is plain.
func checkStep(t *testing.T, s impl.Step) bool {
	t.Helper()
	plain, text := wantPlain(s), wantStepText(s)
	if got := impl.PlainStep(s); got != plain {
		t.Fatalf("PlainStep(%+v) = %v", s, got)
	}
	if got := impl.StepText(s); got != text {
		t.Fatalf("StepText(%+v) = %q, want %q", s, got, text)
	}
	if plain {
		checkReadStep(t, text, s, true)
	}
	return plain
}

func checkReadStep(t *testing.T, text string, want impl.Step, wantOk bool) {
	t.Helper()
	got, ok := impl.ReadStep(text)
	if ok != wantOk || !sameStep(got, want) {
		t.Fatalf("ReadStep(%q) = %+v, %v, want %+v, %v", text, got, ok, want, wantOk)
	}
}

// checkStepText compares what ReadStep returns for any text with the expectation, and reports whether it is the text of a step.
func checkStepText(t *testing.T, text string) bool {
	t.Helper()
	want, wantOk := wantReadStep(text)
	checkReadStep(t, text, want, wantOk)
	if wantOk {
		checkStep(t, want)
	}
	return wantOk
}

// checkRefused checks that texts are of no step, for ReadStep and as a line for ReadProof.
func checkRefused(t *testing.T, texts ...string) {
	t.Helper()
	for _, text := range texts {
		if checkStepText(t, text) {
			t.Fatalf("%q is the text of a step", text)
		}
		checkReadStep(t, text, impl.Step{}, false)
		if !strings.Contains(text, "\n") {
			checkFault(t, text+"\n", 1)
			checkFault(t, "one\n"+text+"\none\n", 2)
		}
	}
}

// checkReadProof compares what ReadProof returns with a list and a line.
func checkReadProof(t *testing.T, text string, want []impl.Step, wantLine int64) {
	t.Helper()
	got, line := impl.ReadProof(text)
	if line != wantLine || !sameSteps(got, want) {
		t.Fatalf("ReadProof(%q) = %d, want %d, with%s\ninstead of%s", text, line, wantLine, describe(got), describe(want))
	}
}

// checkFault checks that ReadProof finds the first fault in a line.
func checkFault(t *testing.T, text string, line int64) {
	t.Helper()
	checkReadProof(t, text, nil, line)
	if steps, want := wantReadProof(text); want != line || len(steps) > 0 {
		t.Fatalf("wantReadProof(%q) = %d, want %d", text, want, line)
	}
}

// checkProofText compares what ReadProof returns for any text with the expectation, and ProofText for what is read. It returns the line.
func checkProofText(t *testing.T, text string) int64 {
	t.Helper()
	want, wantLine := wantReadProof(text)
	checkReadProof(t, text, want, wantLine)
	if wantLine == 0 && impl.ProofText(want) != text {
		t.Fatalf("ProofText = %q, want %q", impl.ProofText(want), text)
	}
	return wantLine
}

// checkList compares ProofText of a list of steps with the expectation, and reads it back if it has a text.
func checkList(t *testing.T, list []impl.Step) {
	t.Helper()
	text := wantProofText(list)
	if got := impl.ProofText(list); got != text {
		t.Fatalf("ProofText = %q, want %q of%s", got, text, describe(list))
	}
	if text != "" || len(list) == 0 {
		checkReadProof(t, text, list, 0)
	}
}

// plainStep returns a plain step with a rule, whose fields follow from seed.
func plainStep(rule int64, seed *uint64) impl.Step {
	s := step(rule, -1, -1, 0, 0)
	for _, name := range fieldNames {
		if hasWord(rule, name) {
			*fieldOf(&s, name) = int64(choose(seed, 40))
		}
	}
	if hasWord(rule, "FORM") {
		s.Form = grownTree(1+choose(seed, 24), seed).list()
	}
	return s
}

// plainSteps returns a list of plain steps, which is hardly ever a proof.
func plainSteps(count int, seed *uint64) []impl.Step {
	var out []impl.Step
	for range count {
		out = append(out, plainStep(allRules[choose(seed, 14)], seed))
	}
	return out
}

// somePlainSteps returns plain steps of every rule.
func somePlainSteps() []impl.Step {
	seed := uint64(10)
	var out []impl.Step
	for _, rule := range allRules {
		for range 60 {
			out = append(out, plainStep(rule, &seed))
		}
	}
	return out
}

// longestStep is a plain step with the longest text, of 70 bytes.
func longestStep() impl.Step {
	f := tree{symbol: -8}
	for range 11 {
		f = binary(11, f, leaf(-8))
	}
	return step(plusL, 39, -1, 39, 0, unary(17, f).list()...)
}

// notPlain calls visit with copies of a plain step in which one field makes it a step that is not plain.
func notPlain(s impl.Step, visit func(impl.Step)) {
	for _, rule := range append([]int64{-1, 0, 15, 16, -14, 1<<8 + s.Rule, 1<<32 + s.Rule, -s.Rule}, oddSymbols...) {
		if _, known := layouts[rule]; !known {
			changed := s
			changed.Rule = rule
			visit(changed)
		}
	}
	for _, name := range fieldNames {
		for _, value := range []int64{
			-1, 0, 1, 2, 39, -2, 40, 41, -39, -40, 1 << 8, 1<<8 + 1, 1 << 32, 1<<32 - 1, 1<<32 + 1, -1 << 32, math.MaxInt64, math.MaxInt64 - 1, math.MinInt64, math.MinInt64 + 1,
		} {
			fits := value == otherwise(name)
			if hasWord(s.Rule, name) {
				fits = value >= 0 && value < 40
			}
			if !fits {
				changed := s
				*fieldOf(&changed, name) = value
				visit(changed)
			}
		}
	}
	forms := [][]int64{{1}, {-8}, {13}, {11, 1, -2}, bangs(24)}
	if hasWord(s.Rule, "FORM") {
		forms = [][]int64{nil, {}}
	}
	for _, form := range append(forms, invalidLists()...) {
		if len(form) > 0 || hasWord(s.Rule, "FORM") {
			changed := s
			changed.Form = form
			visit(changed)
		}
	}
}

// textOfEachRule returns the text of a plain step of each rule.
func textOfEachRule() []string {
	seed := uint64(11)
	var out []string
	for _, rule := range slices.Sorted(maps.Keys(layouts)) {
		out = append(out, wantStepText(plainStep(rule, &seed)))
	}
	return out
}
