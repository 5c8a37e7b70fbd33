package tests

import (
	"fmt"
	"math"
	"slices"
	"testing"

	"loop.example/g00872/impl"
)

// ignoredIndices are values of A and B that a step may have when the function sets them.
var ignoredIndices = []int64{-1, 0, 1, 2, 39, 40, -2, 7, math.MaxInt64, math.MinInt64, 1 << 32}

// joinCase is a step and the proofs before it, as texts; A and B of the step do not count.
type joinCase struct{ first, second, step, want string }

// stepOf returns the step with a text, with other values of A and B.
func stepOf(t *testing.T, text string, a, b int64) impl.Step {
	t.Helper()
	s, ok := wantReadStep(text)
	if !ok {
		t.Fatalf("%q is no step", text)
	}
	s.A, s.B = a, b
	return s
}

// Every rule with one premise, written out, with all values of the indices that are not used.
func TestExtendedTexts(t *testing.T) {
	for _, c := range []joinCase{
		{first: "ax A\n", step: "par 9 0 1", want: "ax A\npar 0 0 1\n"}, {first: "ax A\n", step: "par 9 1 0", want: "ax A\npar 0 1 0\n"},
		{first: "one\n", step: "bot 0", want: "one\nbot 0\n"}, {first: "one\nbot 0\n", step: "bot 0", want: "one\nbot 0\nbot 1\n"},
		{first: "ax A\n", step: "plusl 3 1 !B", want: "ax A\nplusl 0 1 !B\n"}, {first: "ax A\n", step: "plusr 3 0 (A*A)", want: "ax A\nplusr 0 0 (A*A)\n"},
		{first: "one\n", step: "prom 0 0", want: "one\nprom 0 0\n"}, {first: "ax ?A\n", step: "prom 5 1", want: "ax ?A\nprom 0 1\n"},
		{first: "ax A\n", step: "der 1 1", want: "ax A\nder 0 1\n"}, {first: "ax A\n", step: "weak 1 ~H", want: "ax A\nweak 0 ~H\n"},
		{first: "one\nweak 0 A\nweak 1 A\n", step: "con 0 1 2", want: "one\nweak 0 A\nweak 1 A\ncon 2 1 2\n"},
		{first: "one\nweak 0 A\nweak 1 A\n", step: "con 0 2 1", want: "one\nweak 0 A\nweak 1 A\ncon 2 2 1\n"},
		{first: "ax A\n", step: "swap 0 0 1", want: "ax A\nswap 0 0 1\n"},
		{first: "ax B\nax A\ntensor 1 0 0 0\n", step: "swap 0 0 2", want: "ax B\nax A\ntensor 1 0 0 0\nswap 2 0 2\n"},
	} {
		list, want := mustReadProof(t, c.first), mustReadProof(t, c.want)
		for _, a := range ignoredIndices {
			for _, b := range ignoredIndices {
				s := stepOf(t, c.step, a, b)
				got, ok := impl.ExtendedProof(list, s)
				if !ok || !sameSteps(got, want) || !checkExtended(t, list, s) {
					t.Fatalf("ExtendedProof of %q with %+v = %v with%s", c.first, s, ok, describe(got))
				}
			}
		}
	}
}

// Every rule with two premises, written out, with all values of the indices that are not used.
func TestCombinedTexts(t *testing.T) {
	for _, c := range []joinCase{
		{"ax A\n", "ax B\n", "tensor 0 1 0 0", "ax A\nax B\ntensor 0 1 0 0\n"}, {"ax B\n", "ax A\n", "tensor 0 1 0 1", "ax B\nax A\ntensor 0 1 0 1\n"},
		{"one\n", "one\n", "tensor 5 5 0 0", "one\none\ntensor 0 1 0 0\n"}, {"ax A\n", "ax A\n", "cut 0 0 0 1", "ax A\nax A\ncut 0 1 0 1\n"},
		{"ax A\nswap 0 0 1\n", "ax A\nbot 0\n", "cut 0 0 0 0", "ax A\nswap 0 0 1\nax A\nbot 2\ncut 1 3 0 0\n"},
		{"ax A\nax B\ntensor 1 0 0 1\n", "ax C\npar 0 1 0\n", "tensor 0 0 2 0", "ax A\nax B\ntensor 1 0 0 1\nax C\npar 3 1 0\ntensor 2 4 2 0\n"},
		{"one\nbot 0\n", "ax A\nax B\ntensor 1 0 0 1\n", "tensor 0 0 1 2", "one\nbot 0\nax A\nax B\ntensor 3 2 0 1\ntensor 1 4 1 2\n"},
		{"ax A\n", "ax A\nplusl 0 0 B\nswap 1 0 1\nplusl 2 0 C\nswap 3 0 1\n", "tensor 0 0 0 0", "ax A\nax A\nplusl 1 0 B\nswap 2 0 1\nplusl 3 0 C\nswap 4 0 1\ntensor 0 5 0 0\n"},
		{"ax A\n", "ax A\n", "with 0 0 0 0", "ax A\nax A\nwith 0 1 0 0\n"}, {"ax A\n", "ax A\nswap 0 0 1\n", "with 0 0 1 0", "ax A\nax A\nswap 1 0 1\nwith 0 2 1 0\n"},
		{"one\n", "one\nprom 0 0\n", "with 0 0 0 0", "one\none\nprom 1 0\nwith 0 2 0 0\n"},
	} {
		p, q, want := mustReadProof(t, c.first), mustReadProof(t, c.second), mustReadProof(t, c.want)
		for _, a := range ignoredIndices {
			for _, b := range ignoredIndices {
				s := stepOf(t, c.step, a, b)
				got, ok := impl.CombinedProof(p, q, s)
				if !ok || !sameSteps(got, want) || !checkCombined(t, p, q, s) {
					t.Fatalf("CombinedProof of %q and %q with %+v = %v with%s", c.first, c.second, s, ok, describe(got))
				}
			}
		}
	}
}

// triedSteps calls visit with steps of a rule whose fields fit or not, more of them for the fields that the table names.
func triedSteps(rule int64, visit func(impl.Step)) {
	tries := map[bool][]int64{true: {-1, 0, 1, 2, 3, 10}, false: {0, 1}}
	forms := [][]int64{nil, {2}}
	if rows[rule].form {
		forms = append(forms, []int64{18, 1}, []int64{11, 1})
	}
	for _, i := range tries[rows[rule].i] {
		for _, j := range tries[rows[rule].j] {
			for _, form := range forms {
				visit(step(rule, 3, 5, i, j, form...))
			}
		}
	}
}

// variedProofs are some valid proofs with every rule, short and long ones, and short ones with a formula that can be contracted.
func variedProofs() [][]impl.Step {
	out := chosenProofs()
	for n, list := range chosenProofs() {
		last := int64(len(list))
		if weakened := append(list, step(weak, last-1, -1, 0, 0, 1), step(weak, last, -1, 0, 0, 1)); n%2 == 0 && isProof(weakened) {
			out = append(out, weakened)
		}
	}
	for n, list := range someProofs() {
		if n%25 == 0 {
			out = append(out, list)
		}
	}
	for n, list := range shortProofs() {
		if n%120 == 0 {
			out = append(out, list)
		}
	}
	return out
}

// All rules, and numbers of none, after valid proofs: the rules with one premise have a result where the step fits.
func TestExtendedProofs(t *testing.T) {
	found := map[int64]int{}
	for _, list := range variedProofs() {
		for rule := int64(-1); rule <= 16; rule++ {
			triedSteps(rule, func(s impl.Step) {
				if checkExtended(t, list, s) {
					found[rule]++
				}
			})
		}
	}
	for rule := int64(-1); rule <= 16; rule++ {
		if unary := rows[rule].premises == 1; unary && found[rule] < 20 || !unary && found[rule] > 0 {
			t.Fatal("number of results with the rule", rule, found[rule])
		}
	}
}

// All rules, and numbers of none, after two valid proofs: the rules with two premises have a result where the step fits.
func TestCombinedProofs(t *testing.T) {
	found := map[int64]int{}
	lists := variedProofs()
	for n, p := range lists {
		end := endOfProof(p)
		for _, q := range [][]impl.Step{p, lists[(n*5+2)%len(lists)], {axiom(end[n%len(end)]...)}} {
			for rule := int64(-1); rule <= 16; rule++ {
				if rows[rule].premises == 2 || n%8 == 0 {
					triedSteps(rule, func(s impl.Step) {
						if checkCombined(t, p, q, s) {
							found[rule]++
						}
					})
				}
			}
		}
	}
	for rule := int64(-1); rule <= 16; rule++ {
		if binary := rows[rule].premises == 2; binary && found[rule] < 50 || !binary && found[rule] > 0 {
			t.Fatal("number of results with the rule", rule, found[rule])
		}
	}
}

// Rules with another number of premises have no result, although their steps would be correct; nor have numbers of no rule.
func TestJoinedByOtherRules(t *testing.T) {
	list := mustReadProof(t, "one\n")
	for _, rule := range append([]int64{0, 15, -par, -tensor, 1<<8 + par, 1<<32 + par, 1<<8 + tensor, 1<<32 + tensor}, oddSymbols...) {
		if _, known := rows[rule]; known {
			continue
		}
		for _, s := range []impl.Step{step(rule, 0, -1, 0, 0), step(rule, 0, 1, 0, 0), step(rule, -1, -1, 0, 0, 1), step(rule, -1, -1, 0, 0)} {
			if checkExtended(t, list, s) || checkCombined(t, list, list, s) {
				t.Fatal("a result with the rule", rule)
			}
		}
	}
	for _, s := range []impl.Step{axiom(1), step(one, -1, -1, 0, 0), step(tensor, 0, 0, 0, 0), step(with, 0, 0, 0, 0), step(cut, 0, 0, 0, 0)} {
		if got, ok := impl.ExtendedProof(list, s); ok || len(got) > 0 {
			t.Fatal("ExtendedProof", s, got)
		}
	}
	for _, s := range []impl.Step{axiom(1), step(one, -1, -1, 0, 0), step(bot, 0, -1, 0, 0), step(prom, 0, -1, 0, 0), step(weak, 0, -1, 0, 0, 1), step(der, 0, -1, 0, 0)} {
		if got, ok := impl.CombinedProof(list, list, s); ok || len(got) > 0 {
			t.Fatal("CombinedProof", s, got)
		}
	}
}

// A step that does not fit the conclusion, by each of its conditions.
func TestStepsThatDoNotFit(t *testing.T) {
	pair, quests, long := mustReadProof(t, "ax A\n"), mustReadProof(t, "one\nweak 0 A\nweak 1 B\n"), []impl.Step{axiom(bangs(24)...)}
	for _, s := range []impl.Step{
		step(par, 0, -1, 0, 0), step(par, 0, -1, 0, 2), step(par, 0, -1, -1, 1), step(par, 0, -1, 0, 1, 1), step(swap, 0, -1, 1, 0), step(swap, 0, -1, 1, 1),
		step(swap, 0, -1, 0, 2), step(con, 0, -1, 0, 1), step(prom, 0, -1, 0, 0), step(der, 0, -1, 2, 0), step(der, 0, -1, 0, 1), step(der, 0, -1, math.MinInt64, 0),
		step(bot, 0, -1, 1, 0), step(bot, 0, -1, 0, 0, 1), step(weak, 0, -1, 0, 0), step(weak, 0, -1, 0, 0, 11), step(weak, 0, -1, 0, 0, bangs(24)...),
		step(weak, 0, -1, 0, 0, bangs(25)...), step(plusL, 0, -1, 0, 0), step(plusR, 0, -1, 0, 0, 1, 1), step(plusL, 0, -1, 2, 0, 1), step(plusR, 0, -1, 0, 1, 1),
	} {
		if got, ok := impl.ExtendedProof(pair, s); ok || len(got) > 0 || checkExtended(t, pair, s) {
			t.Fatalf("ExtendedProof with %+v: %v", s, got)
		}
	}
	for _, s := range []impl.Step{step(con, 0, -1, 1, 2), step(con, 0, -1, 1, 1), step(prom, 0, -1, 1, 0)} {
		if checkExtended(t, quests, s) {
			t.Fatalf("ExtendedProof with %+v", s)
		}
	}
	if !checkExtended(t, quests, step(prom, 0, -1, 0, 0)) || checkExtended(t, long, step(der, 0, -1, 0, 0)) {
		t.Fatal("ExtendedProof with RuProm or of a long formula")
	}
	for _, s := range []impl.Step{
		step(tensor, 0, 1, 2, 0), step(tensor, 0, 1, 0, 2), step(tensor, 0, 1, -1, 0), step(tensor, 0, 1, 0, 0, 1), step(cut, 0, 1, 0, 0), step(cut, 0, 1, 1, 1),
		step(cut, 0, 1, 2, 0), step(with, 0, 1, 0, 1), step(with, 0, 1, 0, 0, 13), step(with, 0, 1, 2, 2), step(tensor, 0, 1, math.MaxInt64, 0),
	} {
		if got, ok := impl.CombinedProof(pair, pair, s); ok || len(got) > 0 || checkCombined(t, pair, pair, s) {
			t.Fatalf("CombinedProof with %+v: %v", s, got)
		}
	}
	if checkCombined(t, pair, quests, step(with, 0, 1, 0, 0)) || checkCombined(t, long, pair, step(tensor, 0, 1, 0, 0)) || checkCombined(t, pair, long, step(tensor, 0, 1, 0, 0)) {
		t.Fatal("CombinedProof with another context or of a long formula")
	}
}

// A result of exactly MaxSteps steps is returned, and one of more steps is not.
func TestLimitOfJoinedProofs(t *testing.T) {
	one := []impl.Step{axiom(1)}
	for count := 1; count <= 40; count++ {
		list := padded(one, count)
		for _, s := range []impl.Step{step(swap, 0, 0, 0, 1), step(par, 0, 0, 1, 0), step(weak, 0, 0, 0, 0, 2)} {
			if got, ok := impl.ExtendedProof(list, s); ok != (count < 40) || ok != checkExtended(t, list, s) || ok && len(got) != count+1 {
				t.Fatal("ExtendedProof of a chain", count, ok, len(got))
			}
		}
		for other := 1; other <= 40; other++ {
			s := step(tensor, 0, 0, 1, 0)
			if got, ok := impl.CombinedProof(list, padded(one, other), s); ok != (count+other < 40) || ok && len(got) != count+other+1 {
				t.Fatal("CombinedProof of chains", count, other, ok, len(got))
			}
			checkCombined(t, list, padded(one, other), s)
		}
	}
}

// A list that is no valid proof, in the first or in the second place.
func TestJoinedOfNoProof(t *testing.T) {
	good := mustReadProof(t, "ax A\n")
	for _, list := range noProofs() {
		for _, rule := range allRules {
			for _, form := range [][]int64{nil, {1}} {
				s := step(rule, 0, 1, 0, 0, form...)
				if got, ok := impl.ExtendedProof(list, s); ok || len(got) > 0 || checkExtended(t, list, s) {
					t.Fatalf("ExtendedProof = %v of%s", got, describe(list))
				}
				for _, pair := range [][2][]impl.Step{{list, good}, {good, list}, {list, list}} {
					if got, ok := impl.CombinedProof(pair[0], pair[1], s); ok || len(got) > 0 || checkCombined(t, pair[0], pair[1], s) {
						t.Fatalf("CombinedProof = %v of%s\nand%s", got, describe(pair[0]), describe(pair[1]))
					}
				}
			}
		}
	}
	// What would be a valid proof with the step is no valid proof before it.
	for _, rest := range [][]impl.Step{nil, {axiom(1), axiom(2)}} {
		if checkCombined(t, rest, good, step(tensor, 0, 1, 0, 0)) || checkCombined(t, good, rest, step(tensor, 0, 1, 0, 0)) {
			t.Fatal("CombinedProof of no proof")
		}
	}
	visited, valid := 0, 0
	for _, list := range chosenProofs() {
		changedSteps(list, func(changed []impl.Step) {
			if visited++; visited%11 == 0 {
				checkExtended(t, changed, step(bot, 0, 0, 0, 0))
				checkCombined(t, changed, good, step(tensor, 0, 0, 0, 1))
				if checkCombined(t, good, changed, step(tensor, 0, 0, 0, 0)) {
					valid++
				}
			}
		})
	}
	if visited < 5000 || valid < 20 {
		t.Fatal("too few lists", visited, valid)
	}
}

// No argument is changed, and no result shares memory with the proofs, with the step or within itself.
func TestJoinedProofsUnshared(t *testing.T) {
	lists := variedProofs()
	for n, plain := range lists {
		if len(plain) > 15 && n%5 > 0 {
			continue
		}
		p, changedP := guardedSteps(plain)
		q, changedQ := guardedSteps(lists[(n*7+1)%len(lists)])
		extension, changedExtension := guardedStep(step(weak, 4, 6, 0, 0, 11, 1, -2))
		changed := func() bool { return changedP() || changedQ() || changedExtension() }
		extended := func() ([]impl.Step, bool) { return impl.ExtendedProof(p, extension) }
		checkStepsUnshared(t, "ExtendedProof", extended, wantExtended(plain, extension), changed)
		for m, pair := range [][2][]impl.Step{{p, q}, {q, p}, {p, p}, {p[:1], p[:1]}} {
			s := step(tensor, 8, 9, 0, 0)
			combined := func() ([]impl.Step, bool) { return impl.CombinedProof(pair[0], pair[1], s) }
			checkStepsUnshared(t, fmt.Sprint("CombinedProof ", m), combined, wantCombined(pair[0], pair[1], s), changed)
		}
		first, _ := impl.ExtendedProof(p, extension)
		second, _ := impl.CombinedProof(p, q, step(tensor, 0, 0, 0, 0))
		wantFirst, wantSecond := wantExtended(plain, step(weak, 0, 0, 0, 0, 11, 1, -2)), wantCombined(plain, lists[(n*7+1)%len(lists)], step(tensor, 0, 0, 0, 0))
		overwriteSteps(p)
		overwriteSteps(q)
		overwrite(extension.Form)
		if !sameSteps(first, wantFirst) || !sameSteps(second, wantSecond) {
			t.Fatalf("a result changes with its arguments:%s", describe(plain))
		}
	}
	for _, list := range noProofs() {
		kept, changed := guardedSteps(list)
		s, changedStep := guardedStep(step(weak, 0, -1, 0, 0, 1, 1))
		checkExtended(t, kept, s)
		checkCombined(t, kept, kept, s)
		if changed() || changedStep() {
			t.Fatalf("an argument is changed:%s", describe(list))
		}
	}
}

// The step may have the Form of an axiom; the result has two.
func TestExtendedWithTheSameForm(t *testing.T) {
	form, changed := guarded([]int64{11, 1, -2})
	list := []impl.Step{axiom(form...)}
	s := step(plusR, 0, 0, 1, 0, form...)
	checkStepsUnshared(t, "ExtendedProof", func() ([]impl.Step, bool) { return impl.ExtendedProof(list, s) }, wantExtended(list, s), changed)
	both := step(tensor, 0, 0, 0, 0)
	checkStepsUnshared(t, "CombinedProof", func() ([]impl.Step, bool) { return impl.CombinedProof(list, list, both) }, wantCombined(list, list, both), changed)
	if !slices.Equal(form, []int64{11, 1, -2}) {
		t.Fatal("the Form is changed", form)
	}
}
