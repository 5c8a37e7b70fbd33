package tests

import (
	"fmt"
	"slices"
	"strings"
	"testing"

	"loop.example/g00872/impl"
)

// noElements returns a binding without elements.
func noElements() [][]int64 { return make([][]int64, 8) }

// boundBy returns the binding with the elements of a text such as "A=(B*C), H=~A".
func boundBy(text string) [][]int64 {
	out := noElements()
	for part := range strings.SplitSeq(text, ", ") {
		if name, element, found := strings.Cut(part, "="); found {
			out[name[0]-'A'] = meaningOf(element).list()
		}
	}
	return out
}

// put returns the formula with the elements of a binding in the place of its atoms, all of which are read in the formula itself.
func (t tree) put(list [][]int64) tree {
	if t.symbol > 8 {
		out := tree{symbol: t.symbol}
		for _, kid := range t.kids {
			out.kids = append(out.kids, kid.put(list))
		}
		return out
	}
	element := list[max(t.symbol, -t.symbol)-1]
	switch {
	case len(element) == 0:
		return t
	case t.symbol < 0:
		return treeOf(element).dual()
	}
	return treeOf(element)
}

// isBound reports whether the tests see a binding.
func isBound(list [][]int64) bool {
	return len(list) == 8 && !slices.ContainsFunc(list, func(f []int64) bool { return len(f) > 0 && !isForm(f) })
}

// wantSubst is SubstForm as the tests see it: nil stands for no result.
func wantSubst(f []int64, list [][]int64) []int64 {
	if !isForm(f) || !isBound(list) {
		return nil
	}
	if out := treeOf(f).put(list).list(); len(out) <= 24 {
		return out
	}
	return nil
}

// wantSubstSeq is SubstSeq as the tests see it.
func wantSubstSeq(q impl.Seq, list [][]int64) ([][]int64, bool) {
	if !isSeq(q) || !isBound(list) {
		return nil, false
	}
	var out [][]int64
	for _, f := range q.Forms {
		out = append(out, treeOf(f).put(list).list())
	}
	if !isSeq(impl.Seq{Forms: out}) {
		return nil, false
	}
	return out, true
}

// wantSubstProof is SubstProof as the tests see it: nil stands for no result.
func wantSubstProof(steps []impl.Step, list [][]int64) []impl.Step {
	if !isProof(steps) || !isBound(list) {
		return nil
	}
	out := slices.Clone(steps)
	for k, s := range steps {
		if len(s.Form) > 0 {
			out[k].Form = treeOf(s.Form).put(list).list()
		}
	}
	return ifProof(out)
}

// placesOf adds, for each atom, what stands in its place in f; the pattern and f must be formulas. It reports whether all else agrees.
func placesOf(pattern, f tree, places map[int64][]tree) bool {
	if pattern.symbol < 0 {
		pattern, f = pattern.dual(), f.dual()
	}
	if pattern.symbol <= 8 {
		places[pattern.symbol] = append(places[pattern.symbol], f)
		return true
	}
	if pattern.symbol != f.symbol {
		return false
	}
	for n, kid := range pattern.kids {
		if !placesOf(kid, f.kids[n], places) {
			return false
		}
	}
	return true
}

// wantMatch is MatchForm as the tests see it: nil stands for no result.
func wantMatch(pattern, f []int64) [][]int64 {
	if !isForm(pattern) || !isForm(f) {
		return nil
	}
	places := map[int64][]tree{}
	if !placesOf(treeOf(pattern), treeOf(f), places) {
		return nil
	}
	out := noElements()
	for atom, found := range places {
		for _, other := range found {
			if other.text() != found[0].text() {
				return nil
			}
		}
		out[atom-1] = found[0].list()
	}
	return out
}

// wantComposed is ComposedBindings as the tests see it: nil stands for no result.
func wantComposed(a, b [][]int64) [][]int64 {
	if !isBound(a) || !isBound(b) {
		return nil
	}
	out := noElements()
	for n := range int64(8) {
		switch {
		case len(a[n]) > 0:
			out[n] = treeOf(a[n]).put(b).list()
		case len(b[n]) > 0:
			out[n] = slices.Clone(b[n])
		}
		if len(out[n]) > 24 {
			return nil
		}
	}
	return out
}

// spread returns a formula of the same shape whose atoms are chosen anew, among all of them.
func spread(t tree, seed *uint64) tree {
	out := tree{symbol: t.symbol}
	if t.symbol <= 8 {
		out.symbol = int64(choose(seed, 8)+1) * []int64{1, -1}[choose(seed, 2)]
	}
	for _, kid := range t.kids {
		out.kids = append(out.kids, spread(kid, seed))
	}
	return out
}

// chosenBinding returns a binding in which about filled of eight elements are formulas, of up to size symbols.
func chosenBinding(filled uint64, size int, seed *uint64) [][]int64 {
	out := noElements()
	for n := range out {
		if uint64(choose(seed, 8)) < filled {
			out[n] = spread(grownTree(1+choose(seed, uint64(size)), seed), seed).list()
		}
	}
	return out
}

// chosenTexts are bindings: without elements, with some and with all, with elements that contain atoms which are bound themselves.
var chosenTexts = []string{
	"", "A=A", "A=~A", "A=B", "A=~B", "H=A", "A=1", "B=_", "A=(B*C)", "A=(A*A)", "A=?A", "A=B, B=A", "A=~B, B=~A", "A=B, B=C, C=A", "A=(B|1), B=(A&~A)",
	"A=!B, B=?A", "H=(A+~G), G=!H", "A=(A|~A), B=(B*~A)", "A=B, B=C, C=D, D=E, E=F, F=G, G=H, H=A", "A=A, B=B, C=C, D=D, E=E, F=F, G=G, H=H",
	"A=~A, B=~B, C=~C, D=~D, E=~E, F=~F, G=~G, H=~H", "A=1, B=_, C=1, D=_, E=1, F=_, G=1, H=_", "A=(A*B), B=(B|C), C=(C+D), D=(D&E), E=!F, F=?G, G=(1*H), H=(_|~A)",
}

// someBindings returns the chosen bindings and others.
func someBindings() [][][]int64 {
	out := [][][]int64{{{}, {}, {}, {}, {}, {}, {}, {}}, slices.Repeat([][]int64{bangs(24)}, 8), slices.Repeat([][]int64{{-1}}, 8)}
	for _, text := range chosenTexts {
		out = append(out, boundBy(text))
	}
	seed := uint64(71)
	for n := range 90 {
		out = append(out, chosenBinding(uint64(1+n%8), []int{1, 2, 3, 3, 5, 5, 9, 24}[n%8], &seed), chosenBinding(8, 1+n%4, &seed))
	}
	return out
}

// noBindings calls visit with lists that are no binding: of another length, or with an element that is no formula at every place.
func noBindings(visit func([][]int64)) {
	visit(nil)
	for _, size := range []int{0, 1, 6, 7, 9, 10, 16, 255, 256 + 8} {
		visit(make([][]int64, size))
		visit(slices.Repeat([][]int64{{1}}, size))
	}
	visit(slices.Concat(boundBy("A=B"), [][]int64{nil}))
	visit(boundBy("A=B, H=A")[:7])
	visit(boundBy("B=B, H=A")[1:])
	for _, bad := range invalidLists() {
		if len(bad) == 0 {
			continue
		}
		for place := range 8 {
			for _, others := range [][][]int64{noElements(), boundBy(chosenTexts[len(chosenTexts)-1])} {
				others[place] = bad
				visit(others)
			}
		}
	}
}

// leafyTrees returns formulas with all atoms, of every size up to 24 symbols.
func leafyTrees() []tree {
	out := []tree{leaf(13), leaf(14), leaf(7), leaf(-5)}
	seed := uint64(72)
	for n, f := range someTrees() {
		if len(f.list()) > 3 || n%9 == 0 {
			out = append(out, f, spread(f, &seed))
		}
	}
	return out
}

// textsOf writes the elements of a binding for messages.
func textsOf(list [][]int64) string {
	var parts []string
	for n, f := range list {
		if isForm(f) {
			parts = append(parts, fmt.Sprintf("%c=%s", 'A'+n, treeOf(f).text()))
		} else if len(f) > 0 {
			parts = append(parts, fmt.Sprintf("%c=%v", 'A'+n, f))
		}
	}
	return fmt.Sprintf("%d elements: %s", len(list), strings.Join(parts, ", "))
}

// wantBinding compares a binding with the expected one, where nil stands for no result, and reports whether there is one.
func wantBinding(t *testing.T, what string, got [][]int64, ok bool, want [][]int64) bool {
	t.Helper()
	if ok != (want != nil) || !sameForms(got, want) || ok != impl.IsBinding(got) {
		t.Fatalf("%s = %v with %s\ninstead of %s", what, ok, textsOf(got), textsOf(want))
	}
	return ok
}

// checkSubst compares SubstForm of a formula and of its dual with the expectation, and reports whether there is a result.
func checkSubst(t *testing.T, f []int64, list [][]int64) bool {
	t.Helper()
	want := wantSubst(f, list)
	got, ok := impl.SubstForm(f, list)
	if ok != (want != nil) || !slices.Equal(got, want) || ok != impl.ValidForm(got) {
		t.Fatalf("SubstForm of %v = %v, %v, want %v, with %s", f, got, ok, want, textsOf(list))
	}
	dual, dualOk := impl.SubstForm(impl.DualOf(f), list)
	if dualOk != ok || ok && !slices.Equal(dual, dualList(want)) || !ok && len(dual) > 0 {
		t.Fatalf("SubstForm of the dual of %v = %v, %v with %s", f, dual, dualOk, textsOf(list))
	}
	return ok
}

// checkSubstSeq compares SubstSeq with the expectation, and reports whether there is a result.
func checkSubstSeq(t *testing.T, q impl.Seq, list [][]int64) bool {
	t.Helper()
	want, wantOk := wantSubstSeq(q, list)
	got, ok := impl.SubstSeq(q, list)
	if ok != wantOk || !sameForms(got.Forms, want) {
		t.Fatalf("SubstSeq of %v = %v, %v, want %v, with %s", q.Forms, got.Forms, ok, want, textsOf(list))
	}
	return ok
}

// checkSubstProof compares SubstProof with the expectation and its conclusion with the substituted one, and reports whether there is a result.
func checkSubstProof(t *testing.T, steps []impl.Step, list [][]int64) bool {
	t.Helper()
	want := wantSubstProof(steps, list)
	var end [][]int64
	if want != nil {
		end, _ = wantSubstSeq(impl.Seq{Forms: endOfProof(steps)}, list)
	}
	got, ok := impl.SubstProof(steps, list)
	if !wantProof(t, "SubstProof with "+textsOf(list)+" of"+describe(steps)+"\n", got, ok, want, end) {
		return false
	}
	conclusion, _ := impl.ConclusionOf(steps)
	if q, ok := impl.SubstSeq(conclusion, list); !ok || !impl.Proves(got, q) {
		t.Fatalf("SubstProof with %s does not prove %v:%s", textsOf(list), q.Forms, describe(got))
	}
	return true
}

// checkMatch compares MatchForm with the expectation, substitutes the binding in the pattern, and reports whether there is one.
func checkMatch(t *testing.T, pattern, f []int64) bool {
	t.Helper()
	got, ok := impl.MatchForm(pattern, f)
	if !wantBinding(t, fmt.Sprintf("MatchForm(%v, %v)", pattern, f), got, ok, wantMatch(pattern, f)) {
		return false
	}
	if back, ok := impl.SubstForm(pattern, got); !ok || !slices.Equal(back, f) {
		t.Fatalf("MatchForm(%v, %v) returns %s, with which the pattern becomes %v", pattern, f, textsOf(got), back)
	}
	return true
}

// checkComposed compares ComposedBindings with the expectation, and reports whether there is a result.
func checkComposed(t *testing.T, a, b [][]int64) bool {
	t.Helper()
	got, ok := impl.ComposedBindings(a, b)
	return wantBinding(t, fmt.Sprintf("ComposedBindings of %s\nand %s\n", textsOf(a), textsOf(b)), got, ok, wantComposed(a, b))
}

// checkBindingUnshared fails if a call changes its arguments, or a slice of the binding that it returns shares memory with another one or
// with an argument.
func checkBindingUnshared(t *testing.T, what string, call func() [][]int64, changed func() bool) {
	t.Helper()
	checkSeqUnshared(t, what, func(impl.Seq) impl.Seq { return impl.Seq{Forms: call()} }, impl.Seq{}, changed)
}
