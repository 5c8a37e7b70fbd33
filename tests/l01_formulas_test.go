package tests

import (
	"fmt"
	"math"
	"slices"
	"testing"

	"loop.example/g00872/impl"
)

func TestConstantsOfFormulas(t *testing.T) {
	got := []int64{
		impl.MaxForm, impl.MaxAtom, impl.OpTensor, impl.OpPar, impl.OpOne, impl.OpBot,
		impl.OpPlus, impl.OpWith, impl.OpBang, impl.OpQuest,
	}
	wantList(t, "constants", got, []int64{24, 8, 11, 12, 13, 14, 15, 16, 17, 18})
}

func TestValidFormShortLists(t *testing.T) {
	shortLists(func(f []int64) {
		if got, want := impl.ValidForm(f), isForm(f); got != want {
			t.Fatalf("ValidForm(%v) = %v, want %v", f, got, want)
		}
	})
}

func TestValidFormLongLists(t *testing.T) {
	for _, tr := range someTrees() {
		f := tr.list()
		if !impl.ValidForm(f) {
			t.Fatalf("ValidForm(%v) = false", f)
		}
		if impl.ValidForm(f[:len(f)-1]) {
			t.Fatalf("ValidForm(%v) = true: it ends early", f[:len(f)-1])
		}
		if rest := append(slices.Clone(f), 1); impl.ValidForm(rest) {
			t.Fatalf("ValidForm(%v) = true: it has a rest", rest)
		}
	}
	for _, f := range invalidLists() {
		if impl.ValidForm(f) {
			t.Fatalf("ValidForm(%v) = true", f)
		}
	}
}

func TestFormLimits(t *testing.T) {
	for count := 1; count <= 30; count++ {
		if got := impl.ValidForm(bangs(count)); got != (count <= 24) {
			t.Fatalf("ValidForm of %d symbols = %v", count, got)
		}
	}
	for n := int64(-30); n <= 30; n++ {
		want := n >= -8 && n <= 8 && n != 0 || n == 13 || n == 14
		if got := impl.ValidForm([]int64{n}); got != want {
			t.Fatalf("ValidForm([%d]) = %v", n, got)
		}
	}
	wide := slices.Concat(slices.Repeat([]int64{16, 1}, 11), []int64{2})
	if !impl.ValidForm(wide) || !impl.ValidForm(append([]int64{18}, wide...)) || impl.ValidForm(append([]int64{16, 1}, wide...)) {
		t.Fatal("with operators of two operands the limit is the same")
	}
}

func TestFormEnd(t *testing.T) {
	shortLists(func(f []int64) {
		for at := range int64(len(f)) {
			if got, want := impl.FormEnd(f, at), int64(endOf(f, int(at))); got != want {
				t.Fatalf("FormEnd(%v, %d) = %d, want %d", f, at, got, want)
			}
		}
		for _, at := range append([]int64{int64(len(f))}, oddIndices...) {
			if got := impl.FormEnd(f, at); got != -1 {
				t.Fatalf("FormEnd(%v, %d) = %d, want -1", f, at, got)
			}
		}
	})
}

func TestFormEndInLongLists(t *testing.T) {
	for _, tr := range someTrees() {
		f := tr.list()
		for _, list := range [][]int64{f, append(slices.Clone(f), 99, 1), append([]int64{0}, f...), f[:len(f)-1]} {
			for at := range int64(len(list)) {
				want := int64(endOf(list, int(at)))
				if len(list) > 24 {
					want = -1
				}
				if got := impl.FormEnd(list, at); got != want {
					t.Fatalf("FormEnd(%v, %d) = %d, want %d", list, at, got, want)
				}
			}
		}
	}
}

func TestFormEndLimits(t *testing.T) {
	ones := slices.Repeat([]int64{1}, 25)
	if impl.FormEnd(ones[:24], 0) != 1 || impl.FormEnd(ones[:24], 23) != 24 || impl.FormEnd(ones[:24], 24) != -1 {
		t.Fatal("FormEnd in a list of 24 elements")
	}
	for _, at := range []int64{0, 1, 23, 24, 25} {
		if impl.FormEnd(ones, at) != -1 {
			t.Fatal("FormEnd in a list of 25 elements", at)
		}
	}
	if impl.FormEnd(bangs(24), 0) != 24 || impl.FormEnd(bangs(25), 0) != -1 || impl.FormEnd(bangs(25), 5) != -1 {
		t.Fatal("FormEnd of a formula at the limit")
	}
	if impl.FormEnd([]int64{1, math.MinInt64}, 0) != 1 || impl.FormEnd([]int64{1, math.MinInt64}, 1) != -1 {
		t.Fatal("FormEnd looks at nothing but the formula at the index")
	}
}

func TestDualOfDual(t *testing.T) {
	for _, tr := range someTrees() {
		f := tr.list()
		dual := impl.DualOf(f)
		wantList(t, fmt.Sprint("DualOf ", f), dual, tr.dual().list())
		wantList(t, fmt.Sprint("DualOf DualOf ", f), impl.DualOf(dual), f)
		if slices.Equal(dual, f) {
			t.Fatal("no formula is its own dual", f)
		}
	}
	wantList(t, "DualOf", impl.DualOf([]int64{11, 1, 18, -2}), []int64{12, -1, 17, 2})
}

// A formula is taken apart and put together again.
func TestFormulaFromItsOperands(t *testing.T) {
	for _, tr := range someTrees() {
		f := tr.list()
		op := impl.OperatorOf(f)
		a, okA := impl.OperandOf(f, 0)
		b, okB := impl.OperandOf(f, 1)
		if okA != (len(tr.kids) > 0) || okB != (len(tr.kids) > 1) {
			t.Fatal("operands of", f, okA, okB)
		}
		switch {
		case okB:
			whole, ok := impl.Joined(op, a, b)
			if !ok || !slices.Equal(whole, f) {
				t.Fatal("Joined", f, whole, ok)
			}
		case okA:
			whole, ok := impl.Wrapped(op, a)
			if !ok || !slices.Equal(whole, f) {
				t.Fatal("Wrapped", f, whole, ok)
			}
		case op != 0:
			wantList(t, "unit", f, []int64{op})
		default:
			wantList(t, "leaf", impl.LeavesOf(f), f)
		}
	}
}

func TestOperators(t *testing.T) {
	for _, tr := range someTrees() {
		want := tr.symbol
		if want <= 8 {
			want = 0
		}
		if got := impl.OperatorOf(tr.list()); got != want {
			t.Fatalf("OperatorOf(%v) = %d, want %d", tr.list(), got, want)
		}
	}
}

func TestOperands(t *testing.T) {
	for _, tr := range someTrees() {
		f := tr.list()
		for k, kid := range tr.kids {
			got, ok := impl.OperandOf(f, int64(k))
			if !ok || !slices.Equal(got, kid.list()) {
				t.Fatalf("OperandOf(%v, %d) = %v, %v", f, k, got, ok)
			}
		}
		for _, k := range append([]int64{int64(len(tr.kids)), int64(len(tr.kids)) + 1}, oddIndices...) {
			if got, ok := impl.OperandOf(f, k); ok || len(got) != 0 {
				t.Fatalf("OperandOf(%v, %d) = %v, %v", f, k, got, ok)
			}
		}
	}
}

func TestJoined(t *testing.T) {
	trees := someTrees()
	for i, a := range trees {
		b := trees[(i*7+3)%len(trees)]
		for _, op := range []int64{11, 12, 15, 16} {
			want := binary(op, a, b).list()
			got, ok := impl.Joined(op, a.list(), b.list())
			if len(want) > 24 {
				want = nil
			}
			if ok != (want != nil) || !slices.Equal(got, want) {
				t.Fatal("Joined", op, a.list(), b.list(), got, ok)
			}
		}
	}
	for n := 1; n <= 24; n++ {
		for m := 1; m <= 24; m++ {
			got, ok := impl.Joined(impl.OpWith, bangs(n), bangs(m))
			if ok != (n+m+1 <= 24) || !ok && len(got) != 0 {
				t.Fatal("Joined at the limit", n, m, ok)
			}
		}
	}
}

func TestWrapped(t *testing.T) {
	for _, a := range someTrees() {
		for _, op := range []int64{17, 18} {
			want := unary(op, a).list()
			got, ok := impl.Wrapped(op, a.list())
			if len(want) > 24 {
				want = nil
			}
			if ok != (want != nil) || !slices.Equal(got, want) {
				t.Fatal("Wrapped", op, a.list(), got, ok)
			}
		}
	}
	if _, ok := impl.Wrapped(impl.OpBang, bangs(23)); !ok {
		t.Fatal("a result of 24 symbols")
	}
	if got, ok := impl.Wrapped(impl.OpBang, bangs(24)); ok || len(got) != 0 {
		t.Fatal("a result of 25 symbols")
	}
}

func TestOtherOperators(t *testing.T) {
	wrong := append(slices.Clone(oddSymbols), 1, -1, 8, -8, 13, 14)
	for _, op := range append(slices.Clone(wrong), 17, 18) {
		if got, ok := impl.Joined(op, []int64{1}, []int64{-1}); ok || len(got) != 0 {
			t.Fatal("Joined", op, got, ok)
		}
	}
	for _, op := range append(slices.Clone(wrong), 11, 12, 15, 16) {
		if got, ok := impl.Wrapped(op, []int64{1}); ok || len(got) != 0 {
			t.Fatal("Wrapped", op, got, ok)
		}
	}
}

func TestLeavesDepthFragment(t *testing.T) {
	for _, tr := range someTrees() {
		f := tr.list()
		wantList(t, fmt.Sprint("LeavesOf ", f), impl.LeavesOf(f), tr.leaves())
		if got, want := impl.DepthOf(f), tr.depth(); got != want {
			t.Fatalf("DepthOf(%v) = %d, want %d", f, got, want)
		}
		if got, want := impl.FragmentOf(f), tr.fragment(); got != want {
			t.Fatalf("FragmentOf(%v) = %d, want %d", f, got, want)
		}
	}
	wantList(t, "LeavesOf", impl.LeavesOf([]int64{11, 1, 12, -2, 13}), []int64{1, -2})
	if impl.DepthOf(bangs(24)) != 23 || impl.DepthOf([]int64{11, 17, 17, 1, 2}) != 3 || impl.DepthOf([]int64{11, 2, 17, 17, 1}) != 3 {
		t.Fatal("DepthOf")
	}
	if impl.FragmentOf([]int64{11, 15, 13, 14, 17, -8}) != 15 || impl.FragmentOf([]int64{11, 12, 1, 2, 11, 3, 4}) != 1 {
		t.Fatal("FragmentOf")
	}
}

// Every function has its result for what is no formula, and does not panic.
func TestNoFormula(t *testing.T) {
	for _, f := range invalidLists() {
		checkNoFormula(t, f)
	}
	shortLists(func(f []int64) {
		if !isForm(f) {
			checkNoFormula(t, f)
		}
	})
}

func checkNoFormula(t *testing.T, f []int64) {
	t.Helper()
	if len(impl.DualOf(f)) != 0 || impl.OperatorOf(f) != -1 || len(impl.LeavesOf(f)) != 0 || impl.DepthOf(f) != -1 || impl.FragmentOf(f) != -1 {
		t.Fatal("result of no formula", f)
	}
	for _, k := range []int64{0, 1, -1, math.MaxInt64, math.MinInt64} {
		if a, ok := impl.OperandOf(f, k); ok || len(a) != 0 {
			t.Fatal("OperandOf", f, k, a, ok)
		}
	}
	one := []int64{1}
	for _, pair := range [][2][]int64{{f, one}, {one, f}, {f, f}} {
		if a, ok := impl.Joined(impl.OpTensor, pair[0], pair[1]); ok || len(a) != 0 {
			t.Fatal("Joined", pair, a, ok)
		}
	}
	if a, ok := impl.Wrapped(impl.OpBang, f); ok || len(a) != 0 {
		t.Fatal("Wrapped", f, a, ok)
	}
}

// Each row is a function with one formula as its argument.
func onFormula() map[string]func([]int64) []int64 {
	return map[string]func([]int64) []int64{
		"ValidForm":   func(f []int64) []int64 { impl.ValidForm(f); return nil },
		"FormEnd":     func(f []int64) []int64 { return []int64{impl.FormEnd(f, 0), impl.FormEnd(f, 1)} },
		"DualOf":      impl.DualOf,
		"OperatorOf":  func(f []int64) []int64 { return []int64{impl.OperatorOf(f)} },
		"OperandOf 0": func(f []int64) []int64 { a, _ := impl.OperandOf(f, 0); return a },
		"OperandOf 1": func(f []int64) []int64 { a, _ := impl.OperandOf(f, 1); return a },
		"Joined": func(f []int64) []int64 {
			a, _ := impl.Joined(impl.OpPlus, f, f)
			return a
		},
		"Wrapped":    func(f []int64) []int64 { a, _ := impl.Wrapped(impl.OpQuest, f); return a },
		"LeavesOf":   impl.LeavesOf,
		"DepthOf":    func(f []int64) []int64 { return []int64{impl.DepthOf(f)} },
		"FragmentOf": func(f []int64) []int64 { return []int64{impl.FragmentOf(f)} },
	}
}

func TestArgumentsUnchangedAndUnshared(t *testing.T) {
	checkUnshared(t, onFormula())
}

// The two operands of Joined are checked with different lists, and results of two calls with each other.
func TestJoinedUnshared(t *testing.T) {
	a, changedA := guarded([]int64{17, 2})
	b, changedB := guarded([]int64{-3})
	first, _ := impl.Joined(impl.OpTensor, a, b)
	second, _ := impl.Joined(impl.OpTensor, a, b)
	overwrite(first)
	if changedA() || changedB() {
		t.Fatal("Joined changes or shares an operand")
	}
	wantList(t, "second result", second, []int64{11, 17, 2, -3})
	overwrite(a)
	overwrite(b)
	wantList(t, "second result", second, []int64{11, 17, 2, -3})
}
