package tests

import (
	"fmt"
	"math"
	"slices"
	"strings"
	"testing"

	"loop.example/g00872/impl"
)

// The kinds of links have the numbers of the rules ax, cut, tensor and par of chapter 4.
var linkWords = map[string]int64{"ax": ax, "cut": cut, "tensor": tensor, "par": par}

// linkRoles are the rows of the table of links: whether A, B and C are outputs (o), inputs (i) or 0.
var linkRoles = map[int64]string{ax: "oo0", cut: "ii0", tensor: "iio", par: "iio"}

// linkSymbols are the operators of the formulas of C.
var linkSymbols = map[int64]int64{tensor: 11, par: 12}

// oddNumbers are no wires, links or positions of a net; some look like one when they are cut to 32 or 8 bits.
var oddNumbers = []int64{
	-1, -2, -48, 48, 49, 64, 256, 257, -256, 1 << 32, 1<<32 + 1, -1 << 32, math.MaxInt64, math.MaxInt64 - 1, math.MinInt64, math.MinInt64 + 1,
}

// oddKinds are no kinds of links; the kinds themselves are tried beside them.
var oddKinds = []int64{
	0, -1, -2, -3, -4, 5, 6, 7, 11, 12, 14, 256 + 1, 256 + 3, 1<<32 + 1, 1<<32 + 2, 1<<32 + 3, 1<<32 + 4, math.MaxInt64, math.MinInt64, math.MinInt64 + 3,
}

var allKinds = []int64{ax, cut, tensor, par}

// netOf returns the net of a text with the formulas of its wires, its links and its conclusions, such as "A, ~A, (A|~A); ax 0 1, par 0 1 2; 2".
func netOf(text string) impl.Net {
	var n impl.Net
	parts := strings.Split(text, ";")
	for _, f := range partsOf(parts[0]) {
		n.Wires = append(n.Wires, meaningOf(f).list())
	}
	for _, link := range partsOf(parts[1]) {
		var word string
		var l impl.Link
		fmt.Sscan(link, &word, &l.A, &l.B, &l.C)
		l.Kind = linkWords[word]
		n.Links = append(n.Links, l)
	}
	for word := range strings.FieldsSeq(parts[2]) {
		var wire int64
		fmt.Sscan(word, &wire)
		n.Concl = append(n.Concl, wire)
	}
	return n
}

func partsOf(text string) []string {
	if strings.TrimSpace(text) == "" {
		return nil
	}
	return strings.Split(text, ",")
}

// describeNet writes a net, valid or not, for messages.
func describeNet(n impl.Net) string {
	var forms []string
	for _, f := range n.Wires {
		if isForm(f) {
			forms = append(forms, treeOf(f).text())
		} else {
			forms = append(forms, fmt.Sprint(f))
		}
	}
	return fmt.Sprintf("\n\twires %s\n\tlinks %v\n\tconclusions %v", strings.Join(forms, ", "), n.Links, n.Concl)
}

func sameNet(a, b impl.Net) bool {
	return sameForms(a.Wires, b.Wires) && slices.Equal(a.Links, b.Links) && slices.Equal(a.Concl, b.Concl)
}

func copyNet(n impl.Net) impl.Net {
	return impl.Net{Wires: copyOf(impl.Seq{Forms: n.Wires}), Links: slices.Clone(n.Links), Concl: slices.Clone(n.Concl)}
}

// wiresIn returns the wires with a role, as often as they have it, in a link of one of the four kinds.
func wiresIn(l impl.Link, role byte) []int64 {
	var out []int64
	for n, wire := range []int64{l.A, l.B, l.C} {
		if linkRoles[l.Kind][n] == role {
			out = append(out, wire)
		}
	}
	return out
}

// isLink reports whether a link fits the table; all wires must have formulas.
func isLink(n impl.Net, l impl.Link) bool {
	roles, known := linkRoles[l.Kind]
	if !known {
		return false
	}
	var forms [][]int64
	for at, wire := range []int64{l.A, l.B, l.C} {
		switch {
		case roles[at] == '0' && wire != 0, roles[at] != '0' && (wire < 0 || wire >= int64(len(n.Wires))):
			return false
		case roles[at] != '0':
			forms = append(forms, n.Wires[wire])
		}
	}
	if len(forms) == 2 {
		return slices.Equal(forms[1], dualList(forms[0]))
	}
	return slices.Equal(forms[2], slices.Concat([]int64{linkSymbols[l.Kind]}, forms[0], forms[1]))
}

// isPlain reports whether f is a formula with atoms, tensors and pars only.
func isPlain(f []int64) bool {
	return isForm(f) && slices.Max(f) <= 12
}

// isNet is ValidNet as the tests see it.
func isNet(n impl.Net) bool {
	if len(n.Wires) > 48 || len(n.Links) > 48 {
		return false
	}
	for _, f := range n.Wires {
		if !isPlain(f) {
			return false
		}
	}
	var inputs, outputs []int64
	for _, l := range n.Links {
		if !isLink(n, l) {
			return false
		}
		inputs, outputs = append(inputs, wiresIn(l, 'i')...), append(outputs, wiresIn(l, 'o')...)
	}
	// Each wire is among the outputs, and among the inputs or the conclusions, and there are no others.
	return arePlaces(outputs, len(n.Wires)) && arePlaces(slices.Concat(inputs, n.Concl), len(n.Wires))
}

// wantConclusion is ConclusionSeq of a valid net as the tests see it.
func wantConclusion(n impl.Net) ([][]int64, bool) {
	var out [][]int64
	for _, wire := range n.Concl {
		out = append(out, n.Wires[wire])
	}
	if !isSeq(impl.Seq{Forms: out}) {
		return nil, false
	}
	return out, true
}

// wantEnd is SourceOf (o) and TargetOf (i) of a valid net as the tests see them.
func wantEnd(n impl.Net, wire int64, role byte) int64 {
	return int64(slices.IndexFunc(n.Links, func(l impl.Link) bool { return slices.Contains(wiresIn(l, role), wire) }))
}

// wantLinksOf is LinksOfKind of a valid net as the tests see it.
func wantLinksOf(n impl.Net, kind int64) []int64 {
	var out []int64
	for k, l := range n.Links {
		if l.Kind == kind {
			out = append(out, int64(k))
		}
	}
	return out
}

// wantAxiom is AxiomNet as the tests see it.
func wantAxiom(f []int64) (impl.Net, bool) {
	if !isPlain(f) {
		return impl.Net{}, false
	}
	return impl.Net{Wires: [][]int64{slices.Clone(f), treeOf(f).dual().list()}, Links: []impl.Link{{Kind: ax, A: 0, B: 1}}, Concl: []int64{0, 1}}, true
}

// wantUnion is UnionNet as the tests see it.
func wantUnion(a, b impl.Net) (impl.Net, bool) {
	if !isNet(a) || !isNet(b) || len(a.Wires)+len(b.Wires) > 48 || len(a.Links)+len(b.Links) > 48 {
		return impl.Net{}, false
	}
	out := copyNet(a)
	shift := int64(len(a.Wires))
	out.Wires = append(out.Wires, copyNet(b).Wires...)
	for _, l := range b.Links {
		moved := impl.Link{Kind: l.Kind, A: l.A + shift, B: l.B + shift}
		if linkRoles[l.Kind][2] == 'o' {
			moved.C = l.C + shift
		}
		out.Links = append(out.Links, moved)
	}
	for _, wire := range b.Concl {
		out.Concl = append(out.Concl, wire+shift)
	}
	return out, true
}

// wantLinked is LinkNet as the tests see it.
func wantLinked(n impl.Net, kind, i, j int64) (impl.Net, bool) {
	if !isNet(n) || kind != cut && linkSymbols[kind] == 0 || min(i, j) < 0 || max(i, j) >= int64(len(n.Concl)) || i == j {
		return impl.Net{}, false
	}
	out := copyNet(n)
	out.Concl = nil
	for at, wire := range n.Concl {
		if int64(at) != i && int64(at) != j {
			out.Concl = append(out.Concl, wire)
		}
	}
	link := impl.Link{Kind: kind, A: n.Concl[i], B: n.Concl[j]}
	if kind != cut {
		link.C = int64(len(n.Wires))
		out.Wires = append(out.Wires, binary(linkSymbols[kind], treeOf(n.Wires[link.A]), treeOf(n.Wires[link.B])).list())
		out.Concl = append(out.Concl, link.C)
	}
	out.Links = append(out.Links, link)
	if !isNet(out) {
		return impl.Net{}, false
	}
	return out, true
}

// arePlaces reports whether the list contains each number below count, and has no other elements.
func arePlaces(list []int64, count int) bool {
	for number := range int64(count) {
		if !slices.Contains(list, number) {
			return false
		}
	}
	return len(list) == count
}

// inverseOf returns the list in which each place has its number in a permutation.
func inverseOf(list []int64) []int64 {
	var out []int64
	for number := range int64(len(list)) {
		out = append(out, int64(slices.Index(list, number)))
	}
	return out
}

// wantRenumbered is RenumberNet as the tests see it: each new number takes what the inverse permutation finds for it.
func wantRenumbered(n impl.Net, wires, links []int64) (impl.Net, bool) {
	if !isNet(n) || !arePlaces(wires, len(n.Wires)) || !arePlaces(links, len(n.Links)) {
		return impl.Net{}, false
	}
	var out impl.Net
	for _, old := range inverseOf(wires) {
		out.Wires = append(out.Wires, slices.Clone(n.Wires[old]))
	}
	for _, old := range inverseOf(links) {
		l := n.Links[old]
		moved := impl.Link{Kind: l.Kind, A: wires[l.A], B: wires[l.B]}
		if linkRoles[l.Kind][2] == 'o' {
			moved.C = wires[l.C]
		}
		out.Links = append(out.Links, moved)
	}
	for _, wire := range n.Concl {
		out.Concl = append(out.Concl, wires[wire])
	}
	return out, true
}

// checkNet compares the functions that read a net with the expectation, and reports whether it is valid.
func checkNet(t *testing.T, n impl.Net) bool {
	t.Helper()
	if !isNet(n) {
		checkNoNet(t, n)
		return false
	}
	if !impl.ValidNet(n) {
		t.Fatalf("ValidNet = false of%s", describeNet(n))
	}
	want, wantOk := wantConclusion(n)
	if q, ok := impl.ConclusionSeq(n); ok != wantOk || !sameForms(q.Forms, want) {
		t.Fatalf("ConclusionSeq = %v, %v, want %v, %v of%s", q.Forms, ok, want, wantOk, describeNet(n))
	}
	for _, wire := range append(inOrder(len(n.Wires)+1), oddNumbers...) {
		if got, want := impl.SourceOf(n, wire), wantEnd(n, wire, 'o'); got != want {
			t.Fatalf("SourceOf(%d) = %d, want %d of%s", wire, got, want, describeNet(n))
		}
		if got, want := impl.TargetOf(n, wire), wantEnd(n, wire, 'i'); got != want {
			t.Fatalf("TargetOf(%d) = %d, want %d of%s", wire, got, want, describeNet(n))
		}
	}
	for _, kind := range slices.Concat(allKinds, oddKinds) {
		if got, want := impl.LinksOfKind(n, kind), wantLinksOf(n, kind); !slices.Equal(got, want) {
			t.Fatalf("LinksOfKind of %d = %v, want %v of%s", kind, got, want, describeNet(n))
		}
	}
	return true
}

// checkNoNet fails if a function that reads nets has a result for what is none.
func checkNoNet(t *testing.T, n impl.Net) {
	t.Helper()
	if impl.ValidNet(n) {
		t.Fatalf("ValidNet = true of%s", describeNet(n))
	}
	if q, ok := impl.ConclusionSeq(n); ok || len(q.Forms) > 0 {
		t.Fatalf("ConclusionSeq = %v, %v of%s", q.Forms, ok, describeNet(n))
	}
	for _, wire := range []int64{0, 1, 2, -1, int64(len(n.Wires)), math.MaxInt64, math.MinInt64} {
		if impl.SourceOf(n, wire) != -1 || impl.TargetOf(n, wire) != -1 {
			t.Fatalf("SourceOf(%d), TargetOf(%d) = %d, %d of%s", wire, wire, impl.SourceOf(n, wire), impl.TargetOf(n, wire), describeNet(n))
		}
	}
	for _, kind := range []int64{ax, cut, tensor, par, 0, 5, -1} {
		if list := impl.LinksOfKind(n, kind); len(list) > 0 {
			t.Fatalf("LinksOfKind of %d = %v of%s", kind, list, describeNet(n))
		}
	}
}

// describeCall writes the name of a function and its arguments for messages.
func describeCall(call []any) string {
	out := ""
	for _, part := range call {
		if n, ok := part.(impl.Net); ok {
			part = describeNet(n) + "\n"
		}
		out += fmt.Sprint(part, " ")
	}
	return out
}

// wantNet compares the result of an operation with the expected one, and reports whether there is one. A result must be a valid net. The
// call is the name of the operation and its arguments.
func wantNet(t *testing.T, got impl.Net, ok bool, want impl.Net, wantOk bool, call ...any) bool {
	t.Helper()
	if ok != wantOk || !sameNet(got, want) {
		t.Fatalf("%s = %v with%s\ninstead of %v with%s", describeCall(call), ok, describeNet(got), wantOk, describeNet(want))
	}
	if ok && !checkNet(t, got) {
		t.Fatalf("%s is no valid net:%s", describeCall(call), describeNet(got))
	}
	return ok
}

// checkUnion compares UnionNet with the expectation, and reports whether there is a result.
func checkUnion(t *testing.T, a, b impl.Net) bool {
	t.Helper()
	got, ok := impl.UnionNet(a, b)
	want, wantOk := wantUnion(a, b)
	return wantNet(t, got, ok, want, wantOk, "UnionNet of", a, b)
}

// checkLinked compares LinkNet with the expectation, and reports whether there is a result.
func checkLinked(t *testing.T, n impl.Net, kind, i, j int64) bool {
	t.Helper()
	got, ok := impl.LinkNet(n, kind, i, j)
	want, wantOk := wantLinked(n, kind, i, j)
	return wantNet(t, got, ok, want, wantOk, "LinkNet of", n, kind, i, j)
}

// checkRenumbered compares RenumberNet with the expectation, and reports whether there is a result.
func checkRenumbered(t *testing.T, n impl.Net, wires, links []int64) bool {
	t.Helper()
	got, ok := impl.RenumberNet(n, wires, links)
	want, wantOk := wantRenumbered(n, wires, links)
	return wantNet(t, got, ok, want, wantOk, "RenumberNet of", n, wires, links)
}
