package tests

import (
	"fmt"
	"slices"
	"testing"

	"loop.example/g00872/impl"
)

// The codes and rules of chapter 4 as numbers, so that expected values do not depend on the program.
const (
	codeOk       = int64(0)
	codeRule     = int64(1)
	codePremise  = int64(2)
	codeField    = int64(3)
	codePosition = int64(4)
	codeMatch    = int64(5)
	codeContext  = int64(6)
	codeSize     = int64(7)
	codeUse      = int64(8)
)

const (
	ax     = int64(1)
	cut    = int64(2)
	tensor = int64(3)
	par    = int64(4)
	one    = int64(5)
	bot    = int64(6)
	with   = int64(7)
	plusL  = int64(8)
	plusR  = int64(9)
	prom   = int64(10)
	der    = int64(11)
	weak   = int64(12)
	con    = int64(13)
	swap   = int64(14)
)

// row is a line of the table of rules: the number of premises and the other fields.
type row struct {
	premises   int
	i, j, form bool
}

var rows = map[int64]row{
	ax:     {0, false, false, true},
	cut:    {2, true, true, false},
	tensor: {2, true, true, false},
	par:    {1, true, true, false},
	one:    {0, false, false, false},
	bot:    {1, false, false, false},
	with:   {2, true, true, false},
	plusL:  {1, true, false, true},
	plusR:  {1, true, false, true},
	prom:   {1, true, false, false},
	der:    {1, true, false, false},
	weak:   {1, false, false, true},
	con:    {1, true, true, false},
	swap:   {1, true, true, false},
}

// step makes a step from its fields; without a formula, Form is nil.
func step(rule, a, b, i, j int64, form ...int64) impl.Step {
	return impl.Step{Rule: rule, A: a, B: b, I: i, J: j, Form: form}
}

// axiom makes an axiom of a formula.
func axiom(form ...int64) impl.Step { return step(ax, -1, -1, 0, 0, form...) }

// mustRead returns the sequent with a text.
func mustRead(t *testing.T, text string) impl.Seq {
	t.Helper()
	q, ok := impl.ReadSeq(text)
	if !ok {
		t.Fatalf("ReadSeq(%q) = false", text)
	}
	return q
}

// dualList exchanges the symbols of a formula one by one.
func dualList(f []int64) []int64 {
	pairs := map[int64]int64{11: 12, 12: 11, 13: 14, 14: 13, 15: 16, 16: 15, 17: 18, 18: 17}
	var out []int64
	for _, symbol := range f {
		if d, ok := pairs[symbol]; ok {
			out = append(out, d)
		} else {
			out = append(out, -symbol)
		}
	}
	return out
}

// remove returns the formulas without those at the given positions, which are removed from the last one on.
func remove(q impl.Seq, places ...int64) [][]int64 {
	slices.Sort(places)
	out := slices.Clone(q.Forms)
	for _, place := range slices.Backward(places) {
		out = slices.Delete(out, int(place), int(place)+1)
	}
	return out
}

func isPlace(at int64, q impl.Seq) bool { return 0 <= at && at < int64(len(q.Forms)) }

// wantStep is StepResult as the tests see it.
func wantStep(p, q impl.Seq, s impl.Step) ([][]int64, int64) {
	r, known := rows[s.Rule]
	second := p
	if r.premises == 2 {
		second = q
	}
	switch {
	case !known:
		return nil, codeRule
	case r.premises > 0 && !isSeq(p), r.premises > 1 && !isSeq(q):
		return nil, codePremise
	case r.form && !isForm(s.Form), !r.form && len(s.Form) > 0, !r.i && s.I != 0, !r.j && s.J != 0:
		return nil, codeField
	case r.i && !isPlace(s.I, p), r.j && !isPlace(s.J, second):
		return nil, codePosition
	case (s.Rule == par || s.Rule == con) && s.I == s.J, s.Rule == swap && s.I >= s.J:
		return nil, codePosition
	}
	if code := wantConditions(p, q, s); code != codeOk {
		return nil, code
	}
	forms := wantFormulas(p, q, s)
	if !isSeq(impl.Seq{Forms: forms}) {
		return nil, codeSize
	}
	return forms, codeOk
}

// wantConditions returns the code of the condition on the formulas that does not hold, or codeOk.
func wantConditions(p, q impl.Seq, s impl.Step) int64 {
	switch s.Rule {
	case cut:
		if !slices.Equal(p.Forms[s.I], dualList(q.Forms[s.J])) {
			return codeMatch
		}
	case con:
		if p.Forms[s.J][0] != 18 || !slices.Equal(p.Forms[s.I], p.Forms[s.J]) {
			return codeMatch
		}
	case with:
		if !sameForms(remove(p, s.I), remove(q, s.J)) {
			return codeContext
		}
	case prom:
		if slices.ContainsFunc(remove(p, s.I), func(f []int64) bool { return f[0] != 18 }) {
			return codeContext
		}
	}
	return codeOk
}

// wantFormulas returns the formulas that a step concludes, without the limits.
func wantFormulas(p, q impl.Seq, s impl.Step) [][]int64 {
	joined := func(op int64, operands ...[]int64) []int64 {
		return append([]int64{op}, slices.Concat(operands...)...)
	}
	switch s.Rule {
	case ax:
		return [][]int64{s.Form, dualList(s.Form)}
	case cut:
		return append(remove(p, s.I), remove(q, s.J)...)
	case tensor:
		return append(append(remove(p, s.I), remove(q, s.J)...), joined(11, p.Forms[s.I], q.Forms[s.J]))
	case par:
		return append(remove(p, s.I, s.J), joined(12, p.Forms[s.I], p.Forms[s.J]))
	case one:
		return [][]int64{{13}}
	case bot:
		return append(remove(p), []int64{14})
	case with:
		return append(remove(p, s.I), joined(16, p.Forms[s.I], q.Forms[s.J]))
	case plusL:
		return append(remove(p, s.I), joined(15, p.Forms[s.I], s.Form))
	case plusR:
		return append(remove(p, s.I), joined(15, s.Form, p.Forms[s.I]))
	case prom:
		return append(remove(p, s.I), joined(17, p.Forms[s.I]))
	case der:
		return append(remove(p, s.I), joined(18, p.Forms[s.I]))
	case weak:
		return append(remove(p), joined(18, s.Form))
	case con:
		return append(remove(p, s.I, s.J), p.Forms[s.I])
	}
	out := remove(p)
	out[s.I], out[s.J] = p.Forms[s.J], p.Forms[s.I]
	return out
}

// wantCheck is CheckProof as the tests see it.
func wantCheck(list []impl.Step) ([]impl.Seq, int64, int64) {
	if len(list) < 1 || len(list) > 40 {
		return nil, codeSize, -1
	}
	var all []impl.Seq
	for k, s := range list {
		forms, code := wantInProof(all, s)
		if code != codeOk {
			return nil, code, int64(k)
		}
		all = append(all, impl.Seq{Forms: forms})
	}
	for k := range len(list) - 1 {
		if used(list, int64(k)) != 1 {
			return nil, codeUse, int64(k)
		}
	}
	return all, codeOk, -1
}

// wantInProof is the result of a step after the steps with these sequents.
func wantInProof(all []impl.Seq, s impl.Step) ([][]int64, int64) {
	r, known := rows[s.Rule]
	if !known {
		return nil, codeRule
	}
	premises := []impl.Seq{{}, {}}
	for n, at := range []int64{s.A, s.B} {
		switch {
		case n < r.premises && (at < 0 || at >= int64(len(all))), n >= r.premises && at != -1:
			return nil, codePremise
		case n < r.premises:
			premises[n] = all[at]
		}
	}
	return wantStep(premises[0], premises[1], s)
}

// used counts how often the step k is a premise.
func used(list []impl.Step, k int64) int {
	count := 0
	for _, s := range list {
		if s.A == k {
			count++
		}
		if s.B == k {
			count++
		}
	}
	return count
}

// below returns the steps of the tree of the step k, which must be correct, in their order.
func below(list []impl.Step, k int64) []int64 {
	out := []int64{k}
	for _, premise := range []int64{list[k].A, list[k].B} {
		if premise >= 0 {
			out = append(out, below(list, premise)...)
		}
	}
	slices.Sort(out)
	return out
}

// partOf is SubProof as the tests see it.
func partOf(list []impl.Step, k int64) []impl.Step {
	places := below(list, k)
	var out []impl.Step
	for _, place := range places {
		s := list[place]
		if s.A >= 0 {
			s.A = int64(slices.Index(places, s.A))
		}
		if s.B >= 0 {
			s.B = int64(slices.Index(places, s.B))
		}
		out = append(out, s)
	}
	return out
}

func wantHeight(list []impl.Step, k int64) int64 {
	height := int64(1)
	for _, premise := range []int64{list[k].A, list[k].B} {
		if premise >= 0 {
			height = max(height, 1+wantHeight(list, premise))
		}
	}
	return height
}

func sameStep(a, b impl.Step) bool {
	return a.Rule == b.Rule && a.A == b.A && a.B == b.B && a.I == b.I && a.J == b.J && slices.Equal(a.Form, b.Form)
}

func sameSteps(a, b []impl.Step) bool { return slices.EqualFunc(a, b, sameStep) }

func sameSeqs(a, b []impl.Seq) bool {
	return slices.EqualFunc(a, b, func(x, y impl.Seq) bool { return sameForms(x.Forms, y.Forms) })
}

// growth is a list of correct steps that grows; open are the steps that are no premise yet. If it is plain, the formulas in its steps have
// atoms, tensors and pars only.
type growth struct {
	seed  *uint64
	steps []impl.Step
	ends  []impl.Seq
	open  []int64
	plain bool
}

// add appends a step if it is correct and its premises are open.
func (g *growth) add(s impl.Step) bool {
	if s.A >= 0 && s.A == s.B || s.A >= 0 && !slices.Contains(g.open, s.A) || s.B >= 0 && !slices.Contains(g.open, s.B) {
		return false
	}
	forms, code := wantInProof(g.ends, s)
	if code != codeOk {
		return false
	}
	g.open = slices.DeleteFunc(g.open, func(k int64) bool { return k == s.A || k == s.B })
	g.open = append(g.open, int64(len(g.steps)))
	g.steps = append(g.steps, s)
	g.ends = append(g.ends, impl.Seq{Forms: forms})
	return true
}

func (g *growth) openStep() int64 { return g.open[choose(g.seed, uint64(len(g.open)))] }

// form returns a formula for the field Form, most often a short one.
func (g *growth) form() []int64 {
	if g.plain {
		return multTree(1+2*choose(g.seed, 1+uint64(choose(g.seed, 4))), g.seed).list()
	}
	if choose(g.seed, 4) > 0 {
		return []int64{[]int64{1, -1, 2, 13}[choose(g.seed, 4)]}
	}
	return grownTree(1+choose(g.seed, 8), g.seed).list()
}

// extend adds a step with a rule, whose fields are chosen among the correct ones. It reports whether there is one.
func (g *growth) extend(rule int64) bool {
	r := rows[rule]
	if len(g.open) < r.premises {
		return false
	}
	s := step(rule, -1, -1, 0, 0)
	if r.premises > 0 {
		s.A = g.openStep()
	}
	for r.premises > 1 && (s.B < 0 || s.B == s.A) {
		s.B = g.openStep()
	}
	if r.form {
		s.Form = g.form()
	}
	var choices []impl.Step
	for i := range int64(10) {
		for j := range int64(10) {
			s.I, s.J = i, j
			if _, code := wantInProof(g.ends, s); code == codeOk {
				choices = append(choices, s)
			}
		}
	}
	return len(choices) > 0 && g.add(choices[choose(g.seed, uint64(len(choices)))])
}

// double repeats the steps of an open step and joins both by the rule with.
func (g *growth) double() bool {
	k := g.openStep()
	part := partOf(g.steps, k)
	if len(part) > 12 || len(g.ends[k].Forms) == 0 {
		return false
	}
	offset := int64(len(g.steps))
	for _, s := range part {
		if s.A >= 0 {
			s.A += offset
		}
		if s.B >= 0 {
			s.B += offset
		}
		g.add(s)
	}
	place := int64(choose(g.seed, uint64(len(g.ends[k].Forms))))
	return g.add(step(with, k, int64(len(g.steps))-1, place, place))
}

// contract repeats a formula with OpQuest by the rule weak, so that the rule con can follow.
func (g *growth) contract() bool {
	k := g.openStep()
	at := slices.IndexFunc(g.ends[k].Forms, func(f []int64) bool { return f[0] == 18 })
	if at < 0 || !g.add(step(weak, k, -1, 0, 0, g.ends[k].Forms[at][1:]...)) {
		return false
	}
	last := int64(len(g.steps)) - 1
	return g.add(step(con, last, -1, int64(len(g.ends[last].Forms))-1, int64(at)))
}

// promote gives OpQuest to all formulas but one by the rule der, so that the rule prom can follow.
func (g *growth) promote() bool {
	k := g.openStep()
	for at := 0; at < len(g.ends[k].Forms)-1; {
		if g.ends[k].Forms[at][0] == 18 {
			at++
		} else if g.add(step(der, k, -1, int64(at), 0)) {
			k = int64(len(g.steps)) - 1
		} else {
			return false
		}
	}
	return g.add(step(prom, k, -1, int64(len(g.ends[k].Forms))-1, 0))
}

// cutBack cuts an open step with an axiom of one of its formulas.
func (g *growth) cutBack() bool {
	k := g.openStep()
	if len(g.ends[k].Forms) == 0 {
		return false
	}
	place := choose(g.seed, uint64(len(g.ends[k].Forms)))
	return g.add(axiom(g.ends[k].Forms[place]...)) && g.add(step(cut, k, int64(len(g.steps))-1, int64(place), 1))
}

// grow adds one step with a rule, or several that end with it.
func (g *growth) grow(rule int64) bool {
	if choose(g.seed, 2) == 0 {
		switch rule {
		case cut:
			return g.cutBack()
		case with:
			return g.double()
		case prom:
			return g.promote()
		case con:
			return g.contract()
		}
	}
	return g.extend(rule)
}

var allRules = []int64{ax, cut, tensor, par, one, bot, with, plusL, plusR, prom, der, weak, con, swap}

// balancedRules are the rules that are neither additive nor exponential.
var balancedRules = []int64{ax, cut, tensor, par, one, bot, swap}

// grownProof returns a valid proof with some of the rules, whose steps and fields follow from seed.
func grownProof(rules []int64, seed *uint64) []impl.Step {
	return (&growth{seed: seed}).grown(rules)
}

// grown lets steps with some of the rules grow, and returns the greatest proof among them.
func (g *growth) grown(rules []int64) []impl.Step {
	for range 10 + choose(g.seed, 80) {
		rule := rules[choose(g.seed, uint64(len(rules)))]
		if len(g.open) == 0 || choose(g.seed, 6) == 0 {
			rule = ax
		}
		g.grow(rule)
	}
	var best []impl.Step
	for k := range int64(len(g.steps)) {
		if part := partOf(g.steps, k); len(part) <= 40 && len(part) >= len(best) {
			best = part
		}
	}
	return best
}

// padded returns a proof with steps swap at its end, until it has count steps. The conclusion must have two formulas or more.
func padded(list []impl.Step, count int) []impl.Step {
	out := slices.Clone(list)
	for len(out) < count {
		out = append(out, step(swap, int64(len(out))-1, -1, 0, 1))
	}
	return out
}

// chosenProofs are valid proofs: every rule, one step, and exactly as many steps as there may be.
func chosenProofs() [][]impl.Step {
	return [][]impl.Step{
		{axiom(1)}, {axiom(-8)}, {axiom(16, 17, 13, 18, -3)}, {axiom(bangs(24)...)}, {step(one, -1, -1, 0, 0)},
		{axiom(1), step(par, 0, -1, 0, 1)}, {axiom(1), step(par, 0, -1, 1, 0)}, {step(one, -1, -1, 0, 0), step(bot, 0, -1, 0, 0)},
		{axiom(1), axiom(2), step(tensor, 0, 1, 0, 0)}, {axiom(1), axiom(2), step(tensor, 1, 0, 1, 0)},
		{axiom(1), axiom(1), step(cut, 0, 1, 1, 0)}, {step(one, -1, -1, 0, 0), axiom(13), step(cut, 0, 1, 0, 1)},
		{axiom(1), axiom(1), step(with, 1, 0, 0, 0)}, {axiom(1), step(plusL, 0, -1, 1, 0, 2)}, {axiom(1), step(plusR, 0, -1, 0, 0, 11, 2, 3)},
		{axiom(1), step(der, 0, -1, 1, 0), step(prom, 1, -1, 0, 0)}, {axiom(1), step(weak, 0, -1, 0, 0, 1), step(weak, 1, -1, 0, 0, 1), step(con, 2, -1, 3, 2)},
		{axiom(1), step(swap, 0, -1, 0, 1)}, {axiom(1), step(swap, 0, -1, 0, 1), step(swap, 1, -1, 0, 1)},
		{axiom(1), step(der, 0, -1, 0, 0)}, {axiom(1), step(weak, 0, -1, 0, 0, 17, 2)},
		{axiom(14), step(one, -1, -1, 0, 0), step(cut, 0, 1, 0, 0)}, {step(one, -1, -1, 0, 0), step(one, -1, -1, 0, 0), step(bot, 0, -1, 0, 0), step(cut, 2, 1, 1, 0)},
		// The premises stand in several orders, and the steps of different parts alternate.
		{axiom(1), axiom(2), axiom(3), axiom(4), step(par, 2, -1, 0, 1), step(par, 0, -1, 0, 1), step(tensor, 3, 1, 0, 1), step(tensor, 4, 5, 0, 0), step(tensor, 7, 6, 0, 1)},
		{step(one, -1, -1, 0, 0), axiom(1), step(bot, 0, -1, 0, 0), axiom(2), step(swap, 1, -1, 0, 1), step(swap, 2, -1, 0, 1), step(tensor, 5, 4, 1, 1), step(tensor, 3, 6, 0, 2)},
		padded([]impl.Step{axiom(1)}, 39), padded([]impl.Step{axiom(1)}, 40), padded([]impl.Step{axiom(1), axiom(2), step(tensor, 0, 1, 0, 0)}, 40),
	}
}

// someProofs returns the chosen valid proofs and grown ones.
func someProofs() [][]impl.Step {
	out := chosenProofs()
	seed := uint64(8)
	for n := range 400 {
		grown := grownProof(allRules, &seed)
		out = append(out, grown)
		all, _, _ := wantCheck(grown)
		if n%10 == 0 && len(all[len(all)-1].Forms) > 1 {
			out = append(out, padded(grown, 40))
		}
	}
	return out
}

// describe writes a list of steps for messages.
func describe(list []impl.Step) string {
	out := ""
	for k, s := range list {
		out += fmt.Sprintf("\n%d: rule %d, A %d, B %d, I %d, J %d, Form %v", k, s.Rule, s.A, s.B, s.I, s.J, s.Form)
	}
	return out
}
