package tests

import (
	"fmt"
	"slices"
	"strings"
	"testing"

	"loop.example/g00872/impl"
)

// listsOf returns the lists of some formulas.
func listsOf(trees []tree) [][]int64 {
	var out [][]int64
	for _, tr := range trees {
		out = append(out, tr.list())
	}
	return out
}

func seqOf(lists ...[]int64) impl.Seq { return impl.Seq{Forms: lists} }

func seqOfTrees(trees []tree) impl.Seq { return seqOf(listsOf(trees)...) }

// textOfTrees is the text that a sequent of these formulas has.
func textOfTrees(trees []tree) string {
	out := ""
	for i, tr := range trees {
		if i > 0 {
			out += ", "
		}
		out += tr.text()
	}
	return out
}

func sizeOf(trees []tree) int {
	size := 0
	for _, tr := range trees {
		size += len(tr.list())
	}
	return size
}

func sameForms(a, b [][]int64) bool {
	return slices.EqualFunc(a, b, slices.Equal[[]int64])
}

func wantForms(t *testing.T, what string, got impl.Seq, want [][]int64) {
	t.Helper()
	if !sameForms(got.Forms, want) {
		t.Fatalf("%s: got %v, want %v", what, got.Forms, want)
	}
}

// tenths are the sizes of ten formulas.
func tenths(size int) []int { return slices.Repeat([]int{size}, 10) }

// treesOfSizes returns formulas of these sizes whose shapes follow from seed.
func treesOfSizes(sizes []int, seed *uint64) []tree {
	var out []tree
	for _, size := range sizes {
		out = append(out, grownTree(size, seed))
	}
	return out
}

// chosenTrees returns the formulas of a valid sequent; some are equal, dual, or short.
func chosenTrees(seed *uint64) []tree {
	var out []tree
	left := 60
	for count := choose(seed, 11); count > 0; count-- {
		next := leaf([]int64{1, -1, 2, -8, 13, 14}[choose(seed, 6)])
		switch pick := choose(seed, 8); {
		case pick == 0 && len(out) > 0:
			next = out[choose(seed, uint64(len(out)))]
		case pick == 1 && len(out) > 0:
			next = out[choose(seed, uint64(len(out)))].dual()
		case pick < 6:
			next = grownTree(1+choose(seed, uint64(min(24, left-count+1))), seed)
		}
		if size := len(next.list()); size <= left-count+1 {
			out = append(out, next)
			left -= size
		}
	}
	return out
}

// someSequents returns the formulas of valid sequents: short ones, sequents at the limits, and chosen ones.
func someSequents() [][]tree {
	a, b := leaf(1), leaf(2)
	out := [][]tree{
		nil, {}, {a}, {a, a}, {a, b, a}, {a, a.dual()}, {a.dual(), a}, {leaf(13)}, {leaf(14), leaf(13), leaf(14)},
		{binary(11, a, b), binary(11, b, a), binary(11, a, a), binary(12, a, a), binary(11, a, b.dual())},
		{unary(18, a), unary(17, a), unary(17, a.dual()), a, unary(17, leaf(-8)), unary(18, leaf(14))},
		slices.Repeat([]tree{a}, 10), slices.Repeat([]tree{a, a.dual()}, 5),
	}
	seed := uint64(4)
	for range 4 {
		for _, sizes := range [][]int{{24, 24, 12}, {12, 24, 24}, {24, 24, 11, 1}, {20, 20, 20}, {15, 15, 15, 15}, tenths(6), {24}, {23, 24}, {1, 1, 1, 1, 1, 1, 1, 5, 24, 24}} {
			out = append(out, treesOfSizes(sizes, &seed))
		}
		out = append(out, slices.Repeat([]tree{grownTree(12, &seed)}, 5))
	}
	for range 1500 {
		out = append(out, chosenTrees(&seed))
	}
	return out
}

// overLimits returns the formulas of sequents that are not valid, although each of their formulas is.
func overLimits() [][]tree {
	var out [][]tree
	seed := uint64(5)
	for _, sizes := range [][]int{
		{24, 24, 13}, {13, 24, 24}, {24, 13, 24}, {24, 24, 12, 1}, {1, 24, 24, 12}, {24, 24, 24}, {20, 20, 21}, {21, 20, 20},
		slices.Concat([]int{7}, tenths(6)[1:]), slices.Concat(tenths(6)[1:], []int{7}), tenths(24),
		slices.Repeat([]int{1}, 11), slices.Repeat([]int{1}, 12), slices.Repeat([]int{1}, 60), slices.Repeat([]int{1}, 1000),
		slices.Repeat([]int{6}, 11), slices.Concat([]int{24, 24}, slices.Repeat([]int{1}, 9)), slices.Repeat([]int{2}, 266),
	} {
		for range 3 {
			out = append(out, treesOfSizes(sizes, &seed))
		}
	}
	return out
}

// brokenSeqs calls visit with sequents in which one list is no formula, at every place.
func brokenSeqs(visit func(impl.Seq)) {
	atoms := listsOf([]tree{leaf(1), leaf(-1), leaf(2), leaf(-8), leaf(13), leaf(14), leaf(1), leaf(3), leaf(-3), leaf(8)})
	for _, bad := range invalidLists() {
		for size := 1; size <= 10; size++ {
			for place := range size {
				forms := slices.Clone(atoms[:size])
				forms[place] = bad
				visit(impl.Seq{Forms: forms})
			}
		}
	}
}

// eachInvalidSeq calls visit with every sequent of the tests that is not valid.
func eachInvalidSeq(visit func(impl.Seq)) {
	brokenSeqs(visit)
	shortLists(func(f []int64) {
		if !isForm(f) {
			visit(seqOf(f))
			visit(seqOf([]int64{1}, f))
		}
	})
	for _, trees := range overLimits() {
		visit(seqOfTrees(trees))
	}
}

func TestConstantsOfSequents(t *testing.T) {
	if impl.MaxSeq != 10 || impl.MaxSymbols != 60 {
		t.Fatal("MaxSeq, MaxSymbols", impl.MaxSeq, impl.MaxSymbols)
	}
}

func TestValidSeq(t *testing.T) {
	atLimit, most := 0, 0
	for _, trees := range someSequents() {
		if !impl.ValidSeq(seqOfTrees(trees)) {
			t.Fatalf("ValidSeq(%v) = false", listsOf(trees))
		}
		if sizeOf(trees) == 60 {
			atLimit++
		}
		if len(trees) == 10 {
			most++
		}
	}
	if atLimit < 30 || most < 30 {
		t.Fatal("too few sequents at the limits", atLimit, most)
	}
	eachInvalidSeq(func(q impl.Seq) {
		if impl.ValidSeq(q) {
			t.Fatalf("ValidSeq(%v) = true", q.Forms)
		}
	})
	if !impl.ValidSeq(impl.Seq{}) || !impl.ValidSeq(impl.Seq{Forms: [][]int64{}}) || impl.ValidSeq(seqOf(nil)) || impl.ValidSeq(seqOf([]int64{})) {
		t.Fatal("the empty sequent is valid, and the empty list is no formula")
	}
}

func TestSequentLimits(t *testing.T) {
	for count := range 15 {
		for size := 1; size <= 25; size++ {
			q := impl.Seq{Forms: slices.Repeat([][]int64{bangs(size)}, count)}
			want := count == 0 || count <= 10 && size <= 24 && count*size <= 60
			if got := impl.ValidSeq(q); got != want {
				t.Fatalf("ValidSeq of %d formulas of %d symbols = %v", count, size, got)
			}
			if impl.SameSeq(q, q) != want || impl.SameMultiset(q, q) != want {
				t.Fatalf("SameSeq or SameMultiset of %d formulas of %d symbols", count, size)
			}
			if _, ok := impl.SwappedSeq(q, 0, 0); ok != (want && count > 0) {
				t.Fatalf("SwappedSeq of %d formulas of %d symbols = %v", count, size, ok)
			}
		}
	}
}

// variants returns sequents that differ from a sequent in one formula, one symbol, the order or the number of formulas.
func variants(trees []tree) []impl.Seq {
	lists := listsOf(trees)
	out := []impl.Seq{seqOf(append(slices.Clone(lists), []int64{5})...), seqOf(slices.Insert(slices.Clone(lists), 0, []int64{13})...)}
	for i, f := range lists {
		out = append(out, seqOf(slices.Delete(slices.Clone(lists), i, i+1)...))
		out = append(out, seqOf(slices.Insert(slices.Clone(lists), i, f)...))
		for at, symbol := range f {
			other := slices.Clone(f)
			other[at] = map[int64]int64{11: 12, 12: 11, 13: 14, 14: 13, 15: 16, 16: 15, 17: 18, 18: 17}[symbol]
			if symbol <= 8 {
				other[at] = -symbol
			}
			changed := slices.Clone(lists)
			changed[i] = other
			out = append(out, impl.Seq{Forms: changed})
		}
		for j := range i {
			swapped := slices.Clone(lists)
			swapped[i], swapped[j] = swapped[j], swapped[i]
			out = append(out, impl.Seq{Forms: swapped})
		}
	}
	return out
}

// sameCounts compares the formulas of two sequents, whatever their order, by taking them out one by one.
func sameCounts(a, b [][]int64) bool {
	rest := slices.Clone(b)
	for _, f := range a {
		at := slices.IndexFunc(rest, func(g []int64) bool { return slices.Equal(f, g) })
		if at < 0 {
			return false
		}
		rest = slices.Delete(rest, at, at+1)
	}
	return len(rest) == 0
}

func isSeq(q impl.Seq) bool {
	size := 0
	for _, f := range q.Forms {
		if !isForm(f) {
			return false
		}
		size += len(f)
	}
	return len(q.Forms) <= 10 && size <= 60
}

// checkComparisons compares what SameSeq and SameMultiset return for two sequents with the expectation.
func checkComparisons(t *testing.T, a, b impl.Seq) {
	t.Helper()
	valid := isSeq(a) && isSeq(b)
	if got, want := impl.SameSeq(a, b), valid && sameForms(a.Forms, b.Forms); got != want {
		t.Fatalf("SameSeq(%v, %v) = %v", a.Forms, b.Forms, got)
	}
	if got, want := impl.SameMultiset(a, b), valid && sameCounts(a.Forms, b.Forms); got != want {
		t.Fatalf("SameMultiset(%v, %v) = %v", a.Forms, b.Forms, got)
	}
}

func TestSameSequents(t *testing.T) {
	sequents := someSequents()
	for i, trees := range sequents {
		q := seqOfTrees(trees)
		if !impl.SameSeq(q, seqOfTrees(trees)) || !impl.SameMultiset(q, seqOfTrees(trees)) {
			t.Fatal("a sequent is not the same as itself", q.Forms)
		}
		checkComparisons(t, q, seqOfTrees(sequents[(i*7+3)%len(sequents)]))
		if i%3 > 0 && i > 100 {
			continue
		}
		for _, other := range variants(trees) {
			checkComparisons(t, q, other)
			checkComparisons(t, other, q)
		}
	}
	if !impl.SameSeq(impl.Seq{}, impl.Seq{Forms: [][]int64{}}) || !impl.SameMultiset(impl.Seq{}, impl.Seq{Forms: [][]int64{}}) {
		t.Fatal("the empty sequent is the same, nil or not")
	}
}

func TestSameFormulasInOtherNumbers(t *testing.T) {
	a, b, tensor, other := []int64{1}, []int64{2}, []int64{11, 1, 2}, []int64{11, 2, 1}
	for _, pair := range [][2]impl.Seq{
		{seqOf(a, a, b), seqOf(a, b, b)}, {seqOf(a, b), seqOf(a, b, b)}, {seqOf(a, b, b), seqOf(a, b)}, {seqOf(a, a), seqOf(a)},
		{seqOf(a), seqOf()}, {seqOf(tensor), seqOf(other)}, {seqOf(tensor, []int64{3}), seqOf([]int64{11, 1, 3}, b)},
		{seqOf([]int64{17, 1}, []int64{18, 2}), seqOf([]int64{18, 1}, []int64{17, 2})}, {seqOf(a), seqOf([]int64{-1})},
	} {
		if impl.SameMultiset(pair[0], pair[1]) || impl.SameMultiset(pair[1], pair[0]) || impl.SameSeq(pair[0], pair[1]) {
			t.Fatal("different sequents", pair)
		}
	}
	for _, pair := range [][2]impl.Seq{
		{seqOf(a, b, a), seqOf(a, a, b)}, {seqOf(tensor, a, tensor), seqOf(tensor, tensor, a)}, {seqOf(a, []int64{-1}), seqOf([]int64{-1}, a)},
	} {
		if !impl.SameMultiset(pair[0], pair[1]) || impl.SameSeq(pair[0], pair[1]) || impl.SameSeq(pair[1], pair[0]) {
			t.Fatal("the same formulas in different orders", pair)
		}
	}
}

// sortedLists puts the formulas in order, each before the first one that comes after it.
func sortedLists(lists [][]int64) [][]int64 {
	var out [][]int64
	for _, f := range lists {
		at := 0
		for at < len(out) && !comesBefore(f, out[at]) {
			at++
		}
		out = slices.Insert(out, at, f)
	}
	return out
}

// Sorting changes nothing but the order of the formulas.
func TestSortedSeq(t *testing.T) {
	for _, trees := range someSequents() {
		q := seqOfTrees(trees)
		sorted := impl.SortedSeq(q)
		wantForms(t, "SortedSeq", sorted, sortedLists(q.Forms))
		wantForms(t, "SortedSeq of a sorted sequent", impl.SortedSeq(sorted), sorted.Forms)
		if !sameCounts(sorted.Forms, q.Forms) || !impl.SameMultiset(sorted, q) {
			t.Fatal("SortedSeq changes the formulas", q.Forms, sorted.Forms)
		}
		for i := 1; i < len(sorted.Forms); i++ {
			if impl.FormBefore(sorted.Forms[i], sorted.Forms[i-1]) {
				t.Fatal("SortedSeq is not in the order of FormBefore", sorted.Forms)
			}
		}
	}
	sorted := impl.SortedSeq(seqOf([]int64{11, 1, 1}, []int64{2}, []int64{-2}))
	wantForms(t, "SortedSeq of (A*A), B, ~B", sorted, [][]int64{{-2}, {2}, {11, 1, 1}})
}

// eachOrder calls visit with every order of the lists.
func eachOrder(lists [][]int64, visit func([][]int64)) {
	var extend func(done, rest [][]int64)
	extend = func(done, rest [][]int64) {
		if len(rest) == 0 {
			visit(slices.Clone(done))
		}
		for i := range rest {
			extend(append(slices.Clone(done), rest[i]), slices.Delete(slices.Clone(rest), i, i+1))
		}
	}
	extend(nil, lists)
}

// Whatever the order, the formulas are sorted alike: by length, then by the first different symbol.
func TestSortedFromEveryOrder(t *testing.T) {
	for _, want := range [][][]int64{
		{{-8}, {-1}, {1}, {8}, {13}, {14}},
		{{11, -1, 2}, {11, 1, -2}, {11, 1, 2}, {11, 2, 1}, {12, 1, 1}, {16, -8, -8}},
		{{14}, {17, -1}, {17, 1}, {18, -8}, {18, 1}, {11, -8, -8}, {17, 18, 1}},
		{{1}, {1}, {1}, {17, 1}, {17, 1}},
		{{11, 13, 13}, {11, 13, 14}, {12, 13, 13}, {17, 17, 17, 1}, {17, 17, 18, 1}},
		{bangs(5), bangs(6), bangs(7), bangs(8), bangs(9), bangs(24)},
	} {
		first := impl.Seq{Forms: want}
		eachOrder(want, func(lists [][]int64) {
			q := impl.Seq{Forms: lists}
			wantForms(t, "SortedSeq", impl.SortedSeq(q), want)
			if !impl.SameMultiset(q, first) || impl.SameSeq(q, first) != sameForms(lists, want) {
				t.Fatal("SameMultiset or SameSeq of another order", lists)
			}
		})
	}
}

// Exchanging two formulas changes nothing but their order, and doing it again restores it.
func TestSwappedSeq(t *testing.T) {
	for _, trees := range someSequents() {
		q := seqOfTrees(trees)
		for i := range q.Forms {
			for j := range q.Forms {
				want := slices.Clone(q.Forms)
				want[i], want[j] = q.Forms[j], q.Forms[i]
				swapped, ok := impl.SwappedSeq(q, int64(i), int64(j))
				if !ok || !sameForms(swapped.Forms, want) {
					t.Fatalf("SwappedSeq(%v, %d, %d) = %v, %v", q.Forms, i, j, swapped.Forms, ok)
				}
				if !impl.SameMultiset(q, swapped) {
					t.Fatal("SwappedSeq changes the formulas", q.Forms, i, j)
				}
				again, ok := impl.SwappedSeq(swapped, int64(i), int64(j))
				if !ok || !impl.SameSeq(q, again) {
					t.Fatal("SwappedSeq is not undone by itself", q.Forms, i, j)
				}
			}
		}
	}
	swapped, ok := impl.SwappedSeq(seqOf([]int64{1}, []int64{2}), 0, 1)
	if !ok || impl.SeqText(swapped) != "B, A" {
		t.Fatal("SwappedSeq of A, B", swapped, ok)
	}
}

func TestSwappedPositions(t *testing.T) {
	for _, trees := range someSequents()[:100] {
		q, count := seqOfTrees(trees), int64(len(trees))
		outside := append([]int64{count, count + 1, 10, 11, 1<<32 + count - 1, 1<<8 + count - 1}, oddIndices...)
		for _, out := range outside {
			for _, in := range []int64{0, count - 1, out} {
				checkNotSwapped(t, q, out, in)
				checkNotSwapped(t, q, in, out)
			}
		}
		checkNotSwapped(t, q, -1, count)
		checkNotSwapped(t, q, count, -1)
	}
}

func checkNotSwapped(t *testing.T, q impl.Seq, i, j int64) {
	t.Helper()
	if got, ok := impl.SwappedSeq(q, i, j); ok || len(got.Forms) != 0 {
		t.Fatalf("SwappedSeq(%v, %d, %d) = %v, %v", q.Forms, i, j, got.Forms, ok)
	}
}

func TestDualSeq(t *testing.T) {
	for _, trees := range someSequents() {
		q := seqOfTrees(trees)
		var want [][]int64
		for _, tr := range trees {
			want = append(want, tr.dual().list())
		}
		dual := impl.DualSeq(q)
		wantForms(t, "DualSeq", dual, want)
		wantForms(t, "DualSeq of DualSeq", impl.DualSeq(dual), q.Forms)
		if len(trees) > 0 && impl.SameSeq(q, dual) {
			t.Fatal("a sequent is its own dual", q.Forms)
		}
	}
	wantForms(t, "DualSeq of A, (B*C)", impl.DualSeq(seqOf([]int64{1}, []int64{11, 2, 3})), [][]int64{{-1}, {12, -2, -3}})
}

// isBalanced takes the leaves out of the list in pairs.
func isBalanced(trees []tree) bool {
	var open []int64
	for _, tr := range trees {
		for _, symbol := range tr.leaves() {
			if at := slices.Index(open, -symbol); at >= 0 {
				open = slices.Delete(open, at, at+1)
			} else {
				open = append(open, symbol)
			}
		}
	}
	return len(open) == 0
}

func TestBalancedSeq(t *testing.T) {
	balanced := 0
	seed := uint64(6)
	for _, trees := range someSequents() {
		if got, want := impl.BalancedSeq(seqOfTrees(trees)), isBalanced(trees); got != want {
			t.Fatalf("BalancedSeq(%v) = %v", listsOf(trees), got)
		}
		if isBalanced(trees) {
			balanced++
		}
		checkBalancedWithDuals(t, trees, &seed)
	}
	if balanced < 20 {
		t.Fatal("too few balanced sequents", balanced)
	}
}

// checkBalancedWithDuals adds the dual of each formula, in any order; without one leaf the balance is lost.
func checkBalancedWithDuals(t *testing.T, trees []tree, seed *uint64) {
	t.Helper()
	var both []tree
	for _, tr := range trees {
		both = slices.Insert(both, choose(seed, uint64(len(both)+1)), tr)
		both = slices.Insert(both, choose(seed, uint64(len(both)+1)), tr.dual())
	}
	q := seqOfTrees(both)
	if got, want := impl.BalancedSeq(q), isSeq(q); got != want {
		t.Fatalf("BalancedSeq(%v) = %v", q.Forms, got)
	}
	for i, f := range q.Forms {
		for at, symbol := range f {
			if symbol > 8 || !isSeq(q) {
				continue
			}
			for _, other := range []int64{-symbol, 14} {
				changed := slices.Clone(q.Forms)
				changed[i] = slices.Clone(f)
				changed[i][at] = other
				if impl.BalancedSeq(impl.Seq{Forms: changed}) {
					t.Fatalf("BalancedSeq(%v) = true", changed)
				}
			}
		}
	}
}

func TestBalanceOfSequents(t *testing.T) {
	for text, want := range map[string]bool{
		"": true, "1": true, "_": true, "1, 1, _": true, "A, ~A": true, "~A, A": true, "(A*B), ~A, ~B": true, "(A|~A)": true, "(A*A), ~A, ~A": true,
		"A, 1, ~A, _": true, "(A&~A), (B+~B)": true, "!A, ?~A": true, "!?A, ~A, 1": true, "((A*1)|(_*~A))": true, "H, ~H": true, "(A*~A), (A*~A), A, ~A": true,
		"A": false, "~A": false, "A, A, ~A": false, "A, A": false, "A, ~B": false, "A, B": false, "A, A, ~B": false, "A, D, ~B, ~C": false, "A, H, ~B, ~G": false,
		"(A*A), ~A": false, "A, 1": false, "A, _": false, "A, ~A, B": false, "A, ~A, ~A": false, "(A*B), ~A, ~C": false, "!A, !A": false, "H, ~G": false, "H": false, "~H": false,
	} {
		q, ok := impl.ReadSeq(text)
		if !ok {
			t.Fatalf("ReadSeq(%q) = false", text)
		}
		if got := impl.BalancedSeq(q); got != want {
			t.Fatalf("BalancedSeq of %q = %v", text, got)
		}
	}
	for a := int64(1); a <= 8; a++ {
		for b := int64(-8); b <= 8; b++ {
			if b == 0 {
				continue
			}
			if impl.BalancedSeq(seqOf([]int64{a}, []int64{b})) != (a == -b) || impl.BalancedSeq(seqOf([]int64{11, b, a})) != (a == -b) {
				t.Fatal("BalancedSeq of two leaves", a, b)
			}
			if impl.BalancedSeq(seqOf([]int64{a}, []int64{b}, []int64{-a})) {
				t.Fatal("BalancedSeq of three leaves", a, b)
			}
		}
	}
}

func checkReadSeq(t *testing.T, s string, want [][]int64, wantOk bool) {
	t.Helper()
	got, ok := impl.ReadSeq(s)
	if ok != wantOk || !sameForms(got.Forms, want) {
		t.Fatalf("ReadSeq(%q) = %v, %v, want %v, %v", s, got.Forms, ok, want, wantOk)
	}
}

// checkSeqText compares what ReadSeq returns for s with the expectation, and what SeqText returns for that.
func checkSeqText(t *testing.T, s string) {
	t.Helper()
	var trees []tree
	for rest, more := s, s != ""; more; {
		part := ""
		part, rest, more = strings.Cut(rest, ", ")
		if firstMisfit(part) >= 0 || meaningOf(part).text() != part {
			checkReadSeq(t, s, nil, false)
			return
		}
		trees = append(trees, meaningOf(part))
	}
	q := seqOfTrees(trees)
	if !isSeq(q) {
		checkReadSeq(t, s, nil, false)
		return
	}
	checkReadSeq(t, s, q.Forms, true)
	if got := impl.SeqText(q); got != s {
		t.Fatalf("SeqText(%v) = %q, want %q", q.Forms, got, s)
	}
}

// A sequent is recovered from its text.
func TestSequentFromItsText(t *testing.T) {
	owners := map[string][][]int64{}
	for _, trees := range someSequents() {
		q, text := seqOfTrees(trees), textOfTrees(trees)
		if got := impl.SeqText(q); got != text {
			t.Fatalf("SeqText(%v) = %q, want %q", q.Forms, got, text)
		}
		checkReadSeq(t, text, q.Forms, true)
		if owner, ok := owners[text]; ok && !sameForms(owner, q.Forms) {
			t.Fatalf("%v and %v have the text %q", owner, q.Forms, text)
		}
		owners[text] = q.Forms
	}
	if got := impl.SeqText(seqOf([]int64{1}, []int64{11, 2, 18, -3}, []int64{13}, []int64{-1})); got != "A, (B*?~C), 1, ~A" {
		t.Fatal("SeqText", got)
	}
	checkReadSeq(t, "", nil, true)
	checkReadSeq(t, "A, ~A", [][]int64{{1}, {-1}}, true)
	checkReadSeq(t, "A, A, A", [][]int64{{1}, {1}, {1}}, true)
}

// The texts of the sequents of A and ~A, and no others, are read: all texts of at most nine bytes of this alphabet.
func TestShortTextsOfSequents(t *testing.T) {
	wants := map[string][][]int64{"": nil}
	var extend func(text string, forms [][]int64)
	extend = func(text string, forms [][]int64) {
		for _, symbol := range []int64{1, -1} {
			longer := text + map[int64]string{1: "A", -1: "~A"}[symbol]
			if len(longer) <= 9 {
				wants[longer] = append(slices.Clone(forms), []int64{symbol})
				extend(longer+", ", wants[longer])
			}
		}
	}
	extend("", nil)
	read := 0
	visitTexts("A~, ", 9, func(s string) {
		want, ok := wants[s]
		checkReadSeq(t, s, want, ok)
		if ok {
			read++
		}
	})
	if read != len(wants) || read != 14 {
		t.Fatal("number of texts that are read", read, len(wants))
	}
	visitTexts("A, (*)1", 6, func(s string) { checkSeqText(t, s) })
}

func TestTextsOfNoSequent(t *testing.T) {
	for _, s := range []string{
		// commas and spaces
		"A,~A", "A,A", "A, ", "A,", "A, ~A,", "A, ~A, ", ", A", ",A", ", ", ",", ", , ", "A, , A", "A,, A", "A, ,A", "A,,A", "A  , A",
		"A,  A", "A,   A", "A , A", "A ,A", " A", "A ", " ", "  ", "A, A ", " A, A", "A,\tA", "A,\nA", "A,\u00a0A", "A; A", "A A", "A\n", "A, A\n", "\nA", "A, \nA", "A. A", "AA",
		// the liberal notation
		"A, (A -> B)", "(A->B)", "A, (A->B)", "A, (A * B)", "~~A", "A, ~~A", "A, ~(A*B)", "~ A", "A, ~1", "~_, A", "A, ! A", "~!A, A", "(A *B), A",
		// other texts
		"I", "A, I", "a", "A, 2", "(A, B)", "(A*B, C)", "(A, A*B)", "A, (B*C", "A, B)", "(A*B", "[A]", "A, A)", "()", "A, ()", "\x00", "A, \xff", "A, B, *", "-", "A, ->",
	} {
		checkReadSeq(t, s, nil, false)
		checkReadSeq(t, s+", A", nil, false)
		checkReadSeq(t, "A, "+s, nil, false)
		checkSeqText(t, s)
	}
}

// Every byte before, between and after the formulas.
func TestAllBytesInSequents(t *testing.T) {
	for b := range 256 {
		c := string([]byte{byte(b)})
		for _, pattern := range []string{"#", "A#A", "A,#A", "A#, A", "A, #A", "A, A#", "#A, A", "A# A", "A, #, A", "A, #", "#, A", "A, (A#B)", "A, B#C, D"} {
			checkSeqText(t, strings.ReplaceAll(pattern, "#", c))
		}
	}
}

// A byte of a longer text is removed, doubled or replaced, at every place.
func TestChangedTextsOfSequents(t *testing.T) {
	seed := uint64(7)
	for range 60 {
		s := textOfTrees(chosenTrees(&seed))
		for i := range len(s) {
			checkSeqText(t, s[:i])
			checkSeqText(t, s[i:])
			checkSeqText(t, s[:i]+s[i+1:])
			checkSeqText(t, s[:i]+s[i:i+1]+s[i:])
			for _, c := range []string{" ", ",", ", ", "A", "~", "(", ")", "1", "!"} {
				checkSeqText(t, s[:i]+c+s[i+1:])
				checkSeqText(t, s[:i]+c+s[i:])
			}
		}
	}
}

func TestLimitsOfTextsOfSequents(t *testing.T) {
	for _, trees := range overLimits() {
		checkReadSeq(t, textOfTrees(trees), nil, false)
	}
	ten := strings.Repeat("A, ", 9) + "A"
	checkReadSeq(t, ten, slices.Repeat([][]int64{{1}}, 10), true)
	for _, s := range []string{ten + ", A", ten + ", ", ten + ", I", ten + ",A", "A, " + ten, ten + ", " + ten, ", " + ten, ten + ", " + strings.Repeat("A, ", 100000) + "A"} {
		checkReadSeq(t, s, nil, false)
	}
	most := strings.Repeat("!", 23) + "A"
	checkReadSeq(t, most, [][]int64{bangs(24)}, true)
	checkReadSeq(t, most+", "+most+", "+most[12:], [][]int64{bangs(24), bangs(24), bangs(12)}, true)
	checkReadSeq(t, most+", "+most+", "+most[11:], nil, false)
	checkReadSeq(t, "!"+most, nil, false)
	checkReadSeq(t, "A, !"+most, nil, false)
	for _, c := range []string{"A, ", ", ", ",", " ", "A", "!", "~", "(", "A,", "(A*"} {
		checkReadSeq(t, strings.Repeat(c, 1<<16), nil, false)
		checkReadSeq(t, "A, "+strings.Repeat(c, 1<<16)+"A", nil, false)
	}
}

// Every function has its result for what is no sequent, and does not panic.
func TestNoSequent(t *testing.T) {
	good := seqOf([]int64{1}, []int64{-1})
	eachInvalidSeq(func(q impl.Seq) {
		if impl.BalancedSeq(q) || impl.SeqText(q) != "" || len(impl.SortedSeq(q).Forms) != 0 || len(impl.DualSeq(q).Forms) != 0 {
			t.Fatal("result of no sequent", q.Forms)
		}
		for _, pair := range [][2]impl.Seq{{q, q}, {q, good}, {good, q}, {q, {}}, {{}, q}} {
			if impl.SameSeq(pair[0], pair[1]) || impl.SameMultiset(pair[0], pair[1]) {
				t.Fatal("SameSeq or SameMultiset of no sequent", pair)
			}
		}
		checkNotSwapped(t, q, 0, 0)
		checkNotSwapped(t, q, 0, int64(len(q.Forms)-1))
		checkNotSwapped(t, q, 0, int64(len(q.Forms)))
		checkNotSwapped(t, q, -1, 1<<40)
	})
}

// guardedSeq returns a sequent with filled spare capacity behind the list of formulas and behind each formula, and a function that
// reports whether anything changed, the places of the formulas in memory included.
func guardedSeq(lists [][]int64) (impl.Seq, func() bool) {
	var outer [][]int64
	var inner []func() bool
	for _, list := range append(slices.Clone(lists), []int64{spare}, []int64{spare}, []int64{spare}) {
		f, changed := guarded(list)
		outer, inner = append(outer, f), append(inner, changed)
	}
	before := slices.Clone(outer)
	return impl.Seq{Forms: outer[:len(lists)]}, func() bool {
		for i, changed := range inner {
			// The spare capacity makes a first element even behind an empty list.
			if changed() || len(outer[i]) != len(before[i]) || &outer[i][:1][0] != &before[i][:1][0] {
				return true
			}
		}
		return false
	}
}

// packedSeq returns a sequent whose formulas stand one behind the other in one list, so that each is the spare capacity of the one before it.
func packedSeq(lists [][]int64) (impl.Seq, func() bool) {
	whole := append(slices.Concat(lists...), slices.Repeat([]int64{spare}, 40)...)
	before := slices.Clone(whole)
	var forms [][]int64
	at := 0
	for _, list := range lists {
		forms = append(forms, whole[at:at+len(list)])
		at += len(list)
	}
	return impl.Seq{Forms: forms}, func() bool { return !slices.Equal(whole, before) || !sameForms(forms, lists) }
}

func copyOf(q impl.Seq) [][]int64 {
	var out [][]int64
	for _, f := range q.Forms {
		out = append(out, slices.Clone(f))
	}
	return out
}

// onSequent returns the functions with a sequent as their result.
func onSequent() map[string]func(impl.Seq) impl.Seq {
	out := map[string]func(impl.Seq) impl.Seq{
		"SortedSeq": impl.SortedSeq,
		"DualSeq":   impl.DualSeq,
		"ReadSeq":   func(q impl.Seq) impl.Seq { r, _ := impl.ReadSeq(impl.SeqText(q)); return r },
	}
	for _, pair := range [][2]int64{{0, 0}, {0, 1}, {1, 0}, {2, 2}, {9, 0}, {3, 7}} {
		out[fmt.Sprint("SwappedSeq ", pair)] = func(q impl.Seq) impl.Seq { r, _ := impl.SwappedSeq(q, pair[0], pair[1]); return r }
	}
	return out
}

// checkSeqUnshared fails if a call changes its argument, or a slice of its result shares memory with another one or with the argument.
func checkSeqUnshared(t *testing.T, name string, call func(impl.Seq) impl.Seq, q impl.Seq, changed func() bool) {
	t.Helper()
	got := call(q)
	want := copyOf(got)
	if changed() {
		t.Fatal(name, "changes its argument", q.Forms)
	}
	for i := range want {
		one := call(q)
		overwrite(one.Forms[i])
		one.Forms[i] = want[i]
		wantForms(t, name+" with one formula overwritten", one, want)
		if changed() {
			t.Fatal(name, "shares the memory of a formula with its argument", want)
		}
	}
	for whole, i := got.Forms[:cap(got.Forms)], 0; i < cap(got.Forms); i++ {
		whole[i] = []int64{spare}
	}
	if changed() {
		t.Fatal(name, "shares the list of formulas with its argument", want)
	}
	wantForms(t, name+" a second time", call(q), want)
}

func TestSequentsUnchangedAndUnshared(t *testing.T) {
	sequents := someSequents()[:400]
	sequents = append(sequents, overLimits()...)
	for name, call := range onSequent() {
		for _, trees := range sequents {
			lists := listsOf(trees)
			q, changed := guardedSeq(lists)
			checkSeqUnshared(t, name, call, q, changed)
			q, changed = packedSeq(lists)
			checkSeqUnshared(t, name, call, q, changed)
			// One list serves as several formulas.
			one, changedOne := guarded([]int64{11, 1, -2})
			q = impl.Seq{Forms: slices.Repeat([][]int64{one}, len(lists)%12)}
			checkSeqUnshared(t, name, call, q, changedOne)
		}
		brokenSeqs(func(broken impl.Seq) {
			if q, changed := guardedSeq(broken.Forms); len(call(q).Forms) != 0 || changed() {
				t.Fatal(name, "has a result or changes its argument", broken.Forms)
			}
		})
	}
}

// Results stay what they are when the argument is changed afterwards.
func TestSequentsKeepNothing(t *testing.T) {
	for name, call := range onSequent() {
		for _, trees := range someSequents()[:200] {
			q, _ := guardedSeq(listsOf(trees))
			got := call(q)
			want := copyOf(got)
			for i, f := range q.Forms {
				overwrite(f)
				q.Forms[i] = nil
			}
			wantForms(t, name+" after a change of its argument", got, want)
		}
	}
}

// The functions that compare or count do not change a sequent either.
func TestComparedSequentsUnchanged(t *testing.T) {
	check := func(lists [][]int64) {
		a, changedA := guardedSeq(lists)
		b, changedB := packedSeq(lists)
		impl.ValidSeq(a)
		impl.SameSeq(a, b)
		impl.SameMultiset(a, b)
		impl.SameMultiset(b, a)
		impl.BalancedSeq(a)
		impl.SeqText(a)
		impl.BalancedSeq(b)
		impl.SeqText(b)
		if changedA() || changedB() {
			t.Fatal("an argument is changed", lists)
		}
	}
	for _, trees := range append(someSequents()[:400], overLimits()...) {
		check(listsOf(trees))
	}
	brokenSeqs(func(q impl.Seq) { check(q.Forms) })
}
