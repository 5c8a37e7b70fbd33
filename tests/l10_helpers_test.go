package tests

import (
	"fmt"
	"slices"
	"testing"

	"loop.example/g00872/impl"
)

// multRules are the rules of multiplicative proofs. Those that make a link have its kind as their number.
var multRules = []int64{ax, cut, tensor, par, swap}

// madeBy holds the numbers of wires and links that a step with a rule creates.
var madeBy = map[int64][2]int64{ax: {2, 1}, cut: {0, 1}, tensor: {1, 1}, par: {1, 1}, swap: {0, 0}}

// isMultProof is MultiplicativeProof as the tests see it.
func isMultProof(list []impl.Step) bool {
	other := func(s impl.Step) bool {
		return !slices.Contains(multRules, s.Rule) || s.Rule == ax && !isPlain(s.Form)
	}
	return isProof(list) && !slices.ContainsFunc(list, other)
}

// madeBefore returns how many wires and links the steps before the step k create.
func madeBefore(list []impl.Step, k int64) (wires, links int64) {
	for _, s := range list[:k] {
		wires += madeBy[s.Rule][0]
		links += madeBy[s.Rule][1]
	}
	return wires, links
}

// placed are the things, such as wires or texts, that belong to the positions of a sequent.
type placed[T any] []T

// except returns the things that are not at one of the positions.
func (p placed[T]) except(positions ...int64) placed[T] {
	var out placed[T]
	for at, thing := range p {
		if !slices.Contains(positions, int64(at)) {
			out = append(out, thing)
		}
	}
	return out
}

// alongProof returns what belongs to the positions of the step k of a multiplicative proof, if begin returns this for an axiom, and join
// for the result of a tensor or par of two things. It goes from the step to its premises.
func alongProof[T any](list []impl.Step, k int64, begin func(k int64) placed[T], join func(k int64, a, b T) T) placed[T] {
	s := list[k]
	var p, q placed[T]
	if s.A >= 0 {
		p = alongProof(list, s.A, begin, join)
	}
	if s.B >= 0 {
		q = alongProof(list, s.B, begin, join)
	}
	switch s.Rule {
	case ax:
		return begin(k)
	case cut:
		return append(p.except(s.I), q.except(s.J)...)
	case tensor:
		return append(append(p.except(s.I), q.except(s.J)...), join(k, p[s.I], q[s.J]))
	case par:
		return append(p.except(s.I, s.J), join(k, p[s.I], p[s.J]))
	}
	out := p.except()
	out[s.I], out[s.J] = p[s.J], p[s.I]
	return out
}

// wiresOfStep returns the wires at the positions of the step k of a multiplicative proof.
func wiresOfStep(list []impl.Step, k int64) []int64 {
	first := func(k int64) int64 {
		wire, _ := madeBefore(list, k)
		return wire
	}
	begin := func(k int64) placed[int64] { return placed[int64]{first(k), first(k) + 1} }
	return alongProof(list, k, begin, func(k, _, _ int64) int64 { return first(k) })
}

// inputsOfStep returns the wires at the positions I and J of the premises of a step with the rule cut, tensor or par.
func inputsOfStep(list []impl.Step, s impl.Step) (a, b int64) {
	second := s.A
	if s.B >= 0 {
		second = s.B
	}
	return wiresOfStep(list, s.A)[s.I], wiresOfStep(list, second)[s.J]
}

// wantNetOf is NetOf as the tests see it: the numbers of the wires of a step are known from the steps before it, and the formulas from
// its sequent.
func wantNetOf(list []impl.Step) (impl.Net, bool) {
	if !isMultProof(list) {
		return impl.Net{}, false
	}
	var n impl.Net
	all, _, _ := wantCheck(list)
	for k, s := range list {
		forms := all[k].Forms
		n.Wires = append(n.Wires, copyOf(impl.Seq{Forms: forms[int64(len(forms))-madeBy[s.Rule][0]:]})...)
		wire, _ := madeBefore(list, int64(k))
		switch s.Rule {
		case ax:
			n.Links = append(n.Links, impl.Link{Kind: ax, A: wire, B: wire + 1})
		case cut:
			a, b := inputsOfStep(list, s)
			n.Links = append(n.Links, impl.Link{Kind: cut, A: a, B: b})
		case tensor, par:
			a, b := inputsOfStep(list, s)
			n.Links = append(n.Links, impl.Link{Kind: s.Rule, A: a, B: b, C: wire})
		}
	}
	n.Concl = wiresOfStep(list, int64(len(list))-1)
	if !isNet(n) {
		return impl.Net{}, false
	}
	return n, true
}

// outlineOfProof is NetOutline of the net of a multiplicative proof, written from the proof alone.
func outlineOfProof(list []impl.Step) string {
	begin := func(k int64) placed[string] {
		_, link := madeBefore(list, k)
		return placed[string]{fmt.Sprint("a", link), fmt.Sprint("b", link)}
	}
	join := func(k int64, a, b string) string { return "(" + a + operatorSigns[linkSymbols[list[k].Rule]] + b + ")" }
	out := ""
	for _, tree := range alongProof(list, int64(len(list))-1, begin, join) {
		out += "concl " + tree + "\n"
	}
	for _, s := range list {
		if s.Rule == cut {
			out += "cut " + alongProof(list, s.A, begin, join)[s.I] + " " + alongProof(list, s.B, begin, join)[s.J] + "\n"
		}
	}
	return out
}

// checkNetOf compares MultiplicativeProof and NetOf with the expectation, and reports whether there is a net. The net must have the
// conclusion of the proof, and as many links of each kind as the proof has steps with that rule.
func checkNetOf(t *testing.T, list []impl.Step) bool {
	t.Helper()
	if got, want := impl.MultiplicativeProof(list), isMultProof(list); got != want {
		t.Fatalf("MultiplicativeProof = %v of%s", got, describe(list))
	}
	got, ok := impl.NetOf(list)
	want, wantOk := wantNetOf(list)
	if !wantNet(t, got, ok, want, wantOk, "NetOf of", list) {
		return false
	}
	conclusion, _ := impl.ConclusionOf(list)
	if q, seqOk := impl.ConclusionSeq(got); !impl.ValidNet(got) || !seqOk || !impl.SameSeq(q, conclusion) || !sameForms(q.Forms, endOfProof(list)) {
		t.Fatalf("NetOf has the conclusion %v, want %v, of%s", q.Forms, conclusion.Forms, describe(list))
	}
	counts := impl.RuleCounts(list)
	for _, kind := range allKinds {
		if links := impl.LinksOfKind(got, kind); int64(len(links)) != counts[kind-1] {
			t.Fatalf("NetOf has the links %v of the kind %d, of%s", links, kind, describe(list))
		}
	}
	if outline := impl.NetOutline(got); outline != outlineOfProof(list) {
		t.Fatalf("the trees of NetOf are\n%s instead of\n%s of%s", outline, outlineOfProof(list), describe(list))
	}
	return true
}

// joinKinds are the kinds of links with an operator.
var joinKinds = map[int64]int64{11: tensor, 12: par}

// leavesOfSeq returns the leaves of the formulas of a sequent.
func leavesOfSeq(q impl.Seq) []int64 {
	var out []int64
	for _, f := range q.Forms {
		out = append(out, treeOf(f).leaves()...)
	}
	return out
}

// isPlainSeq reports whether q is a valid sequent of formulas with atoms, tensors and pars only.
func isPlainSeq(q impl.Seq) bool {
	return isSeq(q) && !slices.ContainsFunc(q.Forms, func(f []int64) bool { return !isPlain(f) })
}

// wantIsMates is IsMates as the tests see it.
func wantIsMates(q impl.Seq, mates []int64) bool {
	if !isPlainSeq(q) {
		return false
	}
	leaves := leavesOfSeq(q)
	if !arePlaces(mates, len(leaves)) {
		return false
	}
	for leaf, mate := range mates {
		if int64(leaf) == mate || mates[mate] != int64(leaf) || leaves[leaf]+leaves[mate] != 0 {
			return false
		}
	}
	return true
}

// wantLinkedNet is LinkedNet as the tests see it: the formulas are gone through as trees.
func wantLinkedNet(q impl.Seq, mates []int64) (impl.Net, bool) {
	if !wantIsMates(q, mates) {
		return impl.Net{}, false
	}
	var n impl.Net
	var leaves []int64
	var joins []impl.Link
	var place func(f tree) int64
	place = func(f tree) int64 {
		wire := int64(len(n.Wires))
		n.Wires = append(n.Wires, f.list())
		if len(f.kids) == 0 {
			leaves = append(leaves, wire)
			return wire
		}
		at := len(joins)
		joins = append(joins, impl.Link{})
		a := place(f.kids[0])
		b := place(f.kids[1])
		joins[at] = impl.Link{Kind: joinKinds[f.symbol], A: a, B: b, C: wire}
		return wire
	}
	for _, f := range q.Forms {
		n.Concl = append(n.Concl, place(treeOf(f)))
	}
	for leaf, mate := range mates {
		if mate > int64(leaf) {
			n.Links = append(n.Links, impl.Link{Kind: ax, A: leaves[leaf], B: leaves[mate]})
		}
	}
	n.Links = append(n.Links, joins...)
	if !isNet(n) {
		return impl.Net{}, false
	}
	return n, true
}

// checkMates compares IsMates and LinkedNet with the expectation, and reports whether there is a net. The net must have the sequent as its
// conclusion, these mates, and only axioms of atoms.
func checkMates(t *testing.T, q impl.Seq, mates []int64) bool {
	t.Helper()
	if got, want := impl.IsMates(q, mates), wantIsMates(q, mates); got != want {
		t.Fatalf("IsMates = %v of %v and %v", got, q.Forms, mates)
	}
	got, ok := impl.LinkedNet(q, mates)
	want, wantOk := wantLinkedNet(q, mates)
	if !wantNet(t, got, ok, want, wantOk, "LinkedNet of", q.Forms, mates) {
		return false
	}
	back, backOk := impl.MatesOf(got)
	if end, endOk := impl.ConclusionSeq(got); !endOk || !sameForms(end.Forms, q.Forms) || !backOk || !slices.Equal(back, mates) {
		t.Fatalf("MatesOf = %v, %v and ConclusionSeq = %v, %v of the net of %v and %v", back, backOk, end.Forms, endOk, q.Forms, mates)
	}
	if !impl.AtomicNet(got) || len(impl.LinksOfKind(got, cut)) > 0 || len(impl.LinksOfKind(got, ax)) != len(mates)/2 {
		t.Fatalf("LinkedNet of %v and %v is%s", q.Forms, mates, describeNet(got))
	}
	checkLeaves(t, got)
	return true
}

// isAtomicNet is AtomicNet as the tests see it.
func isAtomicNet(n impl.Net) bool {
	if !isNet(n) {
		return false
	}
	for _, k := range wantLinksOf(n, ax) {
		if len(n.Wires[n.Links[k].A]) > 1 || len(n.Wires[n.Links[k].B]) > 1 {
			return false
		}
	}
	return true
}

// leafNames returns the names of the leaves in the trees of the conclusions of a valid net, such as a0.
func leafNames(n impl.Net) []string {
	var out []string
	for _, wire := range n.Concl {
		out = append(out, leafPattern.FindAllString(wantTree(n, wire), -1)...)
	}
	return out
}

// linkNamed returns the link in the name of a leaf.
func linkNamed(name string) int64 { return numbersOf(name[1:])[0] }

// wantLeafWires is LeafWires as the tests see it.
func wantLeafWires(n impl.Net) []int64 {
	if !isNet(n) {
		return nil
	}
	var out []int64
	for _, name := range leafNames(n) {
		l := n.Links[linkNamed(name)]
		out = append(out, map[byte]int64{'a': l.A, 'b': l.B}[name[0]])
	}
	return out
}

// wantMatesOf is MatesOf as the tests see it.
func wantMatesOf(n impl.Net) ([]int64, bool) {
	if !isAtomicNet(n) || len(wantLinksOf(n, cut)) > 0 {
		return nil, false
	}
	if _, ok := wantConclusion(n); !ok {
		return nil, false
	}
	names := leafNames(n)
	var out []int64
	for _, name := range names {
		other := map[byte]string{'a': "b", 'b': "a"}[name[0]] + name[1:]
		out = append(out, int64(slices.Index(names, other)))
	}
	return out, true
}

// checkLeaves compares AtomicNet, LeafWires and MatesOf with the expectation, and reports whether the net has mates.
func checkLeaves(t *testing.T, n impl.Net) bool {
	t.Helper()
	if got, want := impl.AtomicNet(n), isAtomicNet(n); got != want {
		t.Fatalf("AtomicNet = %v of%s", got, describeNet(n))
	}
	if got, want := impl.LeafWires(n), wantLeafWires(n); !slices.Equal(got, want) {
		t.Fatalf("LeafWires = %v, want %v of%s", got, want, describeNet(n))
	}
	got, ok := impl.MatesOf(n)
	want, wantOk := wantMatesOf(n)
	if ok != wantOk || !slices.Equal(got, want) {
		t.Fatalf("MatesOf = %v, %v, want %v, %v of%s", got, ok, want, wantOk, describeNet(n))
	}
	return ok
}
