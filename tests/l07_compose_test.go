package tests

import (
	"fmt"
	"slices"
	"testing"

	"loop.example/g00872/impl"
)

// composedCase holds the texts of two bindings and of their composition, written out; "none" stands for no result.
type composedCase struct{ a, b, want string }

func TestComposedTexts(t *testing.T) {
	for _, c := range []composedCase{
		{"", "", ""}, {"A=(B*~C)", "B=~A", "A=(~A*~C), B=~A"}, {"A=B", "", "A=B"}, {"", "A=B", "A=B"}, {"H=!A", "", "H=!A"}, {"", "H=!A", "H=!A"},
		{"A=B", "B=C", "A=C, B=C"}, {"A=B", "A=C", "A=B"}, {"A=~B", "B=(C*D)", "A=(~C|~D), B=(C*D)"}, {"A=1", "A=B", "A=1"}, {"A=A", "", "A=A"}, {"", "A=A", "A=A"}, {"A=A", "A=B", "A=B"},
		{"A=B, B=A", "A=B, B=A", "A=A, B=B"}, {"A=B", "B=A", "A=A, B=A"}, {"A=~A", "A=~A", "A=A"}, {"A=(A*A)", "A=(A*A)", "A=((A*A)*(A*A))"}, {"A=B, B=C, C=A", "A=B, B=C, C=A", "A=C, B=A, C=B"},
		{"A=(B|C), C=?B", "B=1, D=_", "A=(1|C), B=1, C=?1, D=_"}, {"G=H", "H=G", "G=G, H=G"}, {"A=B, C=D, E=F, G=H", "B=A, D=C, F=E, H=G", "A=A, B=A, C=C, D=C, E=E, F=E, G=G, H=G"},
		{"A=_", "B=1", "A=_, B=1"}, {"C=(A&B)", "A=!B, B=!A", "A=!B, B=!A, C=(!B&!A)"},
		{"A=!!!!!!!!!!!!B", "B=!!!!!!!!!!!A", "A=!!!!!!!!!!!!!!!!!!!!!!!A, B=!!!!!!!!!!!A"}, {"A=!!!!!!!!!!!!B", "B=!!!!!!!!!!!!A", "none"},
	} {
		got, ok := impl.ComposedBindings(boundBy(c.a), boundBy(c.b))
		want := [][]int64(nil)
		if c.want != "none" {
			want = boundBy(c.want)
		}
		wantBinding(t, fmt.Sprintf("ComposedBindings of %q and %q", c.a, c.b), got, ok, want)
		checkComposed(t, boundBy(c.a), boundBy(c.b))
	}
}

// checkEffect compares the substitution of the composition with those of both bindings, one after the other, and reports whether there is a result.
func checkEffect(t *testing.T, f []int64, a, b, composed [][]int64) bool {
	t.Helper()
	first, firstOk := impl.SubstForm(f, a)
	want, wantOk := impl.SubstForm(first, b)
	got, ok := impl.SubstForm(f, composed)
	if ok != (firstOk && wantOk) || !slices.Equal(got, want) {
		t.Fatalf("SubstForm of %v = %v, %v with %s,\ninstead of %v, %v with %s\nand %s", f, got, ok, textsOf(composed), want, wantOk, textsOf(a), textsOf(b))
	}
	return ok
}

// The composition has the effect of both bindings, one after the other, on formulas, sequents and proofs.
func TestComposedEffect(t *testing.T) {
	found, proofs := map[bool]int{}, 0
	lists, trees, steps := someBindings(), leafyTrees(), shortProofs()
	for n, a := range lists {
		for m, b := range lists {
			composed, ok := impl.ComposedBindings(a, b)
			found[checkComposed(t, a, b)]++
			if !ok {
				continue
			}
			for k := range int64(8) {
				checkEffect(t, []int64{k + 1}, a, b, composed)
				checkEffect(t, []int64{-k - 1}, a, b, composed)
			}
			checkEffect(t, trees[(n*31+m*7)%len(trees)].list(), a, b, composed)
			if (n+m)%11 > 0 {
				continue
			}
			list := steps[(n*5+m)%len(steps)]
			first, firstOk := impl.SubstProof(list, a)
			second, secondOk := impl.SubstProof(first, b)
			got, ok := impl.SubstProof(list, composed)
			if ok != (firstOk && secondOk) || !sameSteps(got, second) {
				t.Fatalf("SubstProof with %s\nafter %s = %v, with%s", textsOf(b), textsOf(a), ok, describe(got))
			}
			if ok && len(slices.Concat(composed...)) > 0 {
				proofs++
			}
		}
	}
	if found[true] < 10000 || found[false] < 1000 || proofs < 1000 {
		t.Fatal("too few bindings", found, proofs)
	}
}

// For each atom, the element is empty in both bindings, in one of them, or in none.
func TestComposedWithEmptyElements(t *testing.T) {
	elements := [][]int64{nil, {}, {1}, {-2}, {13}, {11, 3, -4}}
	for n := range int64(8) {
		for _, first := range elements {
			for _, second := range elements {
				a, b := noElements(), noElements()
				a[n], b[n] = first, second
				got, ok := impl.ComposedBindings(a, b)
				want := noElements()
				switch {
				case len(first) == 0:
					want[n] = second
				case n == 0 && slices.Equal(first, []int64{1}), n == 1 && slices.Equal(first, []int64{-2}):
					want[n] = map[bool][]int64{true: first, false: second}[len(second) == 0]
					if n == 1 && len(second) > 0 {
						want[n] = dualList(second)
					}
				case n == 2 && len(first) == 3 && len(second) > 0:
					want[n] = slices.Concat([]int64{11}, second, []int64{-4})
				case n == 3 && len(first) == 3 && len(second) > 0:
					want[n] = slices.Concat([]int64{11, 3}, dualList(second))
				default:
					want[n] = first
				}
				wantBinding(t, fmt.Sprintf("ComposedBindings of %s and %s", textsOf(a), textsOf(b)), got, ok, want)
				checkComposed(t, a, b)
			}
		}
	}
	none := noElements()
	for _, list := range someBindings() {
		for _, pair := range [][2][][]int64{{list, none}, {none, list}} {
			got, ok := impl.ComposedBindings(pair[0], pair[1])
			wantBinding(t, "ComposedBindings with no elements", got, ok, list)
		}
	}
}

// An element of exactly MaxForm symbols is accepted, and one of more symbols is not, whichever atom it belongs to.
func TestLimitOfComposedBindings(t *testing.T) {
	for place := range 8 {
		for size := 1; size <= 24; size++ {
			for other := 1; other <= 24; other++ {
				a, b := noElements(), noElements()
				a[place] = append(bangs(size)[:size-1], int64((place+3)%8+1))
				b[(place+3)%8] = bangs(other)
				got, ok := impl.ComposedBindings(a, b)
				if total := size + other - 1; ok != (total <= 24) || ok && len(got[place]) != total || !ok && len(got) > 0 || checkComposed(t, a, b) != ok {
					t.Fatal("ComposedBindings", place, size, other, ok)
				}
				// Without the element in a, the atom has that of b alone.
				if got, ok := impl.ComposedBindings(noElements(), b); !ok || len(got[(place+3)%8]) != other {
					t.Fatal("ComposedBindings without elements in the first binding", ok, got)
				}
			}
		}
	}
}

// Three bindings have one composition.
func TestComposedThreeTimes(t *testing.T) {
	found := 0
	lists := someBindings()
	for n := range 6000 {
		a, b, c := lists[n%len(lists)], lists[n*7%len(lists)], lists[n*n*3%len(lists)]
		left, leftOk := impl.ComposedBindings(a, b)
		right, rightOk := impl.ComposedBindings(b, c)
		first, firstOk := impl.ComposedBindings(left, c)
		second, secondOk := impl.ComposedBindings(a, right)
		if leftOk && rightOk && firstOk && secondOk {
			if found++; !sameForms(first, second) {
				t.Fatalf("ComposedBindings of %s\nand %s\nand %s:\n%s\nor %s", textsOf(a), textsOf(b), textsOf(c), textsOf(first), textsOf(second))
			}
		}
	}
	if found < 500 {
		t.Fatal("too few bindings", found)
	}
}

func TestComposedOfNoBinding(t *testing.T) {
	noBindings(func(list [][]int64) {
		for _, other := range [][][]int64{noElements(), boundBy("A=B"), boundBy(chosenTexts[len(chosenTexts)-1]), list} {
			for _, pair := range [][2][][]int64{{list, other}, {other, list}} {
				if got, ok := impl.ComposedBindings(pair[0], pair[1]); ok || len(got) > 0 || checkComposed(t, pair[0], pair[1]) {
					t.Fatalf("ComposedBindings of %s and %s = %v, %v", textsOf(pair[0]), textsOf(pair[1]), got, ok)
				}
			}
		}
	})
}

// ComposedBindings changes no argument, and its elements share no memory with one or with each other.
func TestComposedUnshared(t *testing.T) {
	lists := someBindings()
	for n, first := range lists {
		for m := range 6 {
			second := lists[(n*5+m*29)%len(lists)]
			a, changedA := guardedSeq(first)
			b, changedB := packedSeq(second)
			changed := func() bool { return changedA() || changedB() }
			call := func() [][]int64 { out, _ := impl.ComposedBindings(a.Forms, b.Forms); return out }
			checkBindingUnshared(t, "ComposedBindings", call, changed)
			checkBindingUnshared(t, "ComposedBindings", func() [][]int64 { out, _ := impl.ComposedBindings(b.Forms, a.Forms); return out }, changed)
			checkBindingUnshared(t, "ComposedBindings of one list", func() [][]int64 { out, _ := impl.ComposedBindings(a.Forms, a.Forms); return out }, changed)
			got := call()
			want := copyOf(seqOf(got...))
			for _, f := range slices.Concat(a.Forms, b.Forms) {
				overwrite(f)
			}
			wantForms(t, "ComposedBindings after a change of its arguments", seqOf(got...), want)
		}
	}
	// One list serves as every element.
	for _, plain := range [][]int64{{1}, {-1}, {13}, {11, 1, -2}} {
		f, changed := guarded(plain)
		same := slices.Repeat([][]int64{f}, 8)
		for _, pair := range [][2][][]int64{{same, same}, {same, noElements()}, {noElements(), same}} {
			checkBindingUnshared(t, "ComposedBindings of one element", func() [][]int64 { out, _ := impl.ComposedBindings(pair[0], pair[1]); return out }, changed)
		}
	}
	noBindings(func(list [][]int64) {
		if kept, changed := guardedSeq(list); len(list) < 10 && (checkComposed(t, kept.Forms, kept.Forms) || changed()) {
			t.Fatal("ComposedBindings has a result or changes its argument", list)
		}
	})
}

// someNames returns lists of names: permutations of the atoms, with dual atoms, and with atoms that occur several times.
func someNames() [][]int64 {
	out := [][]int64{
		{1, 2, 3, 4, 5, 6, 7, 8}, {2, 1, 3, 4, 5, 6, 7, 8}, {8, 7, 6, 5, 4, 3, 2, 1}, {-1, -2, -3, -4, -5, -6, -7, -8}, {1, 1, 1, 1, 1, 1, 1, 1},
		{-8, -8, -8, -8, -8, -8, -8, -8}, {2, 3, 4, 5, 6, 7, 8, 1}, {-2, 1, -4, 3, -6, 5, -8, 7}, {1, -1, 2, -2, 3, -3, 4, -4},
	}
	seed := uint64(76)
	for range 60 {
		var names []int64
		for range 8 {
			names = append(names, int64(choose(&seed, 8)+1)*[]int64{1, -1}[choose(&seed, 2)])
		}
		out = append(out, names)
	}
	return out
}

// A renaming replaces each atom by its name, and each dual atom by the dual of it.
func TestRenamings(t *testing.T) {
	trees := leafyTrees()
	for n, names := range someNames() {
		got, ok := impl.RenamingOf(names)
		want := noElements()
		for k, name := range names {
			want[k] = []int64{name}
		}
		wantBinding(t, fmt.Sprint("RenamingOf ", names), got, ok, want)
		for m := range 60 {
			f := trees[(n*60+m*7)%len(trees)].list()
			image := slices.Clone(f)
			for at, symbol := range f {
				if symbol > 0 && symbol <= 8 {
					image[at] = names[symbol-1]
				} else if symbol < 0 {
					image[at] = -names[-symbol-1]
				}
			}
			renamed, ok := impl.SubstForm(f, got)
			if wantList(t, fmt.Sprint("SubstForm with the renaming ", names), renamed, image); !ok {
				t.Fatal("SubstForm with a renaming = false", f, names)
			}
		}
	}
}

// The renaming of the inverse permutation undoes a renaming.
func TestRenamingsUndone(t *testing.T) {
	undone := 0
	identity := []int64{1, 2, 3, 4, 5, 6, 7, 8}
	same, _ := impl.RenamingOf(identity)
	for _, names := range append(someNames(), []int64{5, -3, 8, 1, -7, 2, 4, -6}, []int64{3, 5, 1, -2, 4, -8, -6, 7}) {
		inverse := make([]int64, 8)
		for n, name := range names {
			inverse[max(name, -name)-1] = int64(n+1) * max(-1, min(1, name))
		}
		if slices.Contains(inverse, 0) {
			continue
		}
		there, _ := impl.RenamingOf(names)
		back, ok := impl.RenamingOf(inverse)
		both, composed := impl.ComposedBindings(there, back)
		if undone++; !ok || !composed || !sameForms(both, same) {
			t.Fatalf("the renamings of %v and %v are composed as %s", names, inverse, textsOf(both))
		}
	}
	if undone < 8 {
		t.Fatal("too few permutations", undone)
	}
}

func TestNoRenaming(t *testing.T) {
	refuse := func(names []int64) {
		t.Helper()
		if got, ok := impl.RenamingOf(names); ok || len(got) > 0 {
			t.Fatalf("RenamingOf(%v) = %v, %v", names, got, ok)
		}
	}
	refuse(nil)
	for size := range 300 {
		if names := slices.Repeat([]int64{1}, size); size != 8 {
			refuse(names)
		} else if got, ok := impl.RenamingOf(names); !ok || len(got) != 8 {
			t.Fatal("RenamingOf eight names", got, ok)
		}
	}
	for _, bad := range append(slices.Clone(oddSymbols), 11, 12, 13, 14, 15, 16, 17, 18) {
		for place := range 8 {
			names := []int64{2, -1, 4, -3, 6, -5, 8, -7}
			names[place] = bad
			refuse(names)
		}
		refuse([]int64{1, 2, 3, 4, 5, 6, 7, 8, bad})
	}
}

// RenamingOf changes no argument, and its elements share no memory with it or with each other.
func TestRenamingUnshared(t *testing.T) {
	for _, plain := range append(someNames(), []int64{0, 1, 2, 3, 4, 5, 6, 7}, []int64{1, 2}) {
		names, changed := guarded(plain)
		call := func() [][]int64 { out, _ := impl.RenamingOf(names); return out }
		checkBindingUnshared(t, "RenamingOf", call, changed)
		got := call()
		want := copyOf(seqOf(got...))
		overwrite(names)
		wantForms(t, "RenamingOf after a change of its argument", seqOf(got...), want)
	}
}
