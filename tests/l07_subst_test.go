package tests

import (
	"fmt"
	"math"
	"slices"
	"testing"

	"loop.example/g00872/impl"
)

func wantIsBinding(t *testing.T, list [][]int64, want bool) {
	t.Helper()
	if got := impl.IsBinding(list); got != want {
		t.Fatalf("IsBinding = %v of %s", got, textsOf(list))
	}
}

func TestIsBinding(t *testing.T) {
	for _, list := range someBindings() {
		wantIsBinding(t, list, true)
	}
	noBindings(func(list [][]int64) { wantIsBinding(t, list, false) })
	for size := range 20 {
		wantIsBinding(t, make([][]int64, size), size == 8)
		wantIsBinding(t, slices.Repeat([][]int64{{}}, size), size == 8)
		wantIsBinding(t, slices.Repeat([][]int64{{11, 1, -2}}, size), size == 8)
		wantIsBinding(t, slices.Repeat([][]int64{bangs(24)}, size), size == 8)
	}
	for place := range 8 {
		list := noElements()
		for size := 1; size <= 30; size++ {
			list[place] = bangs(size)
			wantIsBinding(t, list, size <= 24)
		}
		for _, f := range leafyTrees() {
			list[place] = f.list()
			wantIsBinding(t, list, true)
		}
		shortLists(func(f []int64) {
			list[place] = f
			wantIsBinding(t, list, len(f) == 0 || isForm(f))
		})
	}
	wantIsBinding(t, make([][]int64, 1<<16), false)
	wantIsBinding(t, slices.Insert(noElements(), 3, slices.Repeat([]int64{17}, 1<<16))[:8], false)
}

// substCase is a formula, a binding and the result, written out; an empty result stands for none.
type substCase struct{ form, binding, want string }

func TestSubstTexts(t *testing.T) {
	for _, c := range []substCase{
		{"A", "", "A"}, {"~H", "", "~H"}, {"(A*?~B)", "", "(A*?~B)"}, {"1", "A=B", "1"}, {"_", "A=B, B=1", "_"},
		{"A", "A=(B*C)", "(B*C)"}, {"~A", "A=(B*C)", "(~B|~C)"}, {"(A|~A)", "A=(B*C)", "((B*C)|(~B|~C))"}, {"B", "A=(B*C)", "B"},
		{"A", "A=~A", "~A"}, {"~A", "A=~A", "A"}, {"A", "A=1", "1"}, {"~A", "A=1", "_"}, {"~A", "A=_", "1"}, {"~A", "A=A", "~A"},
		{"~A", "A=(B&!C)", "(~B+?~C)"}, {"~A", "A=(B+?C)", "(~B&!~C)"}, {"~H", "H=(A|~G)", "(~A*G)"}, {"(G*H)", "H=G", "(G*G)"},
		// Elements are not substituted into again, whatever the order of the atoms.
		{"(A*B)", "A=B, B=A", "(B*A)"}, {"(A*~B)", "A=~B, B=~A", "(~B*A)"}, {"(A*(B*C))", "A=B, B=C, C=A", "(B*(C*A))"}, {"(C*(B*A))", "A=B, B=C, C=A", "(A*(C*B))"},
		{"A", "A=(A*A)", "(A*A)"}, {"(A|(A*~A))", "A=!A", "(!A|(!A*?~A))"}, {"(A+B)", "A=(A*B), B=(B*A)", "((A*B)+(B*A))"}, {"H", "H=A, A=H", "A"},
		{"((A&B)+!(C|~D))", "A=1, B=!A, C=~D, D=?C", "((1&!A)+!(~D|!~C))"}, {"?(E*F)", "E=F, F=G, G=H, H=E", "?(F*G)"},
		{"(((A*B)|(C+D))&((E*F)|(G+H)))", "A=B, B=C, C=D, D=E, E=F, F=G, G=H, H=A", "(((B*C)|(D+E))&((F*G)|(H+A)))"},
		{"((~A*~B)|(~C+~D))", "A=B, B=~C, C=D, D=~A", "((~B*C)|(~D+A))"},
		// 1 + 12 + 11 symbols, and one more.
		{"(A*B)", "A=!!!!!!!!!!!C, B=!!!!!!!!!!C", "(!!!!!!!!!!!C*!!!!!!!!!!C)"}, {"(A*B)", "A=!!!!!!!!!!!C, B=!!!!!!!!!!!C", ""},
		{"A", "A=!!!!!!!!!!!!!!!!!!!!!!!C", "!!!!!!!!!!!!!!!!!!!!!!!C"}, {"?A", "A=!!!!!!!!!!!!!!!!!!!!!!!C", ""}, {"?B", "A=!!!!!!!!!!!!!!!!!!!!!!!C", "?B"},
	} {
		list := boundBy(c.binding)
		got, ok := impl.SubstForm(meaningOf(c.form).list(), list)
		if ok != (c.want != "") || impl.FormText(got) != c.want || len(got) > 0 && c.want == "" {
			t.Fatalf("SubstForm of %s with %s = %s, %v, want %s", c.form, c.binding, impl.FormText(got), ok, c.want)
		}
		checkSubst(t, meaningOf(c.form).list(), list)
	}
	got, ok := impl.SubstForm([]int64{12, 1, -1}, boundBy("A=(B*C)"))
	if wantList(t, "SubstForm", got, []int64{12, 11, 2, 3, 12, -2, -3}); !ok {
		t.Fatal("SubstForm = false")
	}
}

// Formulas of all shapes and their duals, with bindings of all kinds.
func TestSubstForms(t *testing.T) {
	found, sizes := map[bool]int{}, map[int]int{}
	lists := someBindings()
	for n, f := range leafyTrees() {
		for m := range 12 {
			list := lists[(n*12+m*17)%len(lists)]
			found[checkSubst(t, f.list(), list)]++
			sizes[len(f.put(list).list())]++
		}
	}
	if found[true] < 5000 || found[false] < 5000 || sizes[23] < 100 || sizes[24] < 100 || sizes[25] < 100 || sizes[26] < 100 {
		t.Fatal("too few formulas", found, sizes[23], sizes[24], sizes[25], sizes[26])
	}
}

// Every small formula with every chosen binding.
func TestSubstSmallForms(t *testing.T) {
	for _, text := range chosenTexts {
		for _, f := range smallTrees() {
			if !checkSubst(t, f.list(), boundBy(text)) {
				t.Fatal("no result", f.text(), text)
			}
		}
	}
}

// Each atom is replaced by its own element and by no other one.
func TestSubstEachAtom(t *testing.T) {
	for n := range int64(8) {
		for m := range int64(8) {
			for _, element := range [][]int64{{13}, {11, 1, -2}, {m + 1}, {-m - 1}, {18, n + 1}, bangs(24)} {
				list := noElements()
				list[m] = element
				for _, atom := range []int64{n + 1, -n - 1} {
					want := []int64{atom}
					if n == m && atom > 0 {
						want = element
					} else if n == m {
						want = dualList(element)
					}
					got, ok := impl.SubstForm([]int64{atom}, list)
					if wantList(t, fmt.Sprint("SubstForm of ", atom, " with ", textsOf(list)), got, want); !ok {
						t.Fatal("SubstForm = false", atom, m)
					}
				}
			}
		}
	}
}

// A result of exactly MaxForm symbols is returned, and one of more symbols is not.
func TestLimitOfSubstForms(t *testing.T) {
	sizes := map[int]int{}
	for places := 1; places <= 12; places++ {
		for size := 1; size <= 24; size++ {
			for _, sign := range []int64{1, -1} {
				f := leaf(3 * sign)
				for range places - 1 {
					f = binary(12, f, leaf(-3*sign))
				}
				for before := len(f.list()); before <= 24; before++ {
					list := noElements()
					list[2] = bangs(size)
					total := before + places*(size-1)
					sizes[total]++
					if got, ok := impl.SubstForm(f.list(), list); ok != (total <= 24) || ok && len(got) != total || !ok && len(got) > 0 || checkSubst(t, f.list(), list) != ok {
						t.Fatal("SubstForm of a result with this number of symbols", total, ok, len(got))
					}
					f = unary(18, f)
				}
			}
		}
	}
	if sizes[24] < 100 || sizes[25] < 50 || sizes[26] < 50 || sizes[12*24+11] < 1 {
		t.Fatal("too few results", sizes)
	}
}

// Neither a list that is no formula nor a list that is no binding has a result.
func TestSubstOfNoForm(t *testing.T) {
	refuse := func(f []int64, list [][]int64) {
		t.Helper()
		if got, ok := impl.SubstForm(f, list); ok || len(got) > 0 || checkSubst(t, f, list) {
			t.Fatalf("SubstForm(%v) = %v, %v with %s", f, got, ok, textsOf(list))
		}
	}
	for _, text := range []string{"", "A=B", chosenTexts[len(chosenTexts)-1]} {
		for _, f := range invalidLists() {
			refuse(f, boundBy(text))
		}
	}
	full := slices.Repeat([][]int64{{13}}, 8)
	shortLists(func(f []int64) {
		if got, ok := impl.SubstForm(f, full); ok != isForm(f) || !ok && len(got) > 0 {
			t.Fatalf("SubstForm(%v) = %v, %v", f, got, ok)
		}
	})
	refuse(slices.Repeat([]int64{1}, 1<<16), full)
	refuse(slices.Repeat([]int64{11}, 1<<16), full)
	refuse([]int64{11, 1, math.MinInt64}, full)
	noBindings(func(list [][]int64) {
		for _, f := range [][]int64{{1}, {-8}, {13}, {12, 3, -4}, {11}, nil} {
			refuse(f, list)
		}
	})
}

// SubstForm changes no argument, and its result shares no memory with one, also if the formula and elements share theirs.
func TestSubstFormsUnshared(t *testing.T) {
	lists := append(someBindings(), noElements()[:7], boundBy("A=B")[:3], slices.Repeat([][]int64{{11, 1}}, 8))
	check := func(f []int64, list [][]int64, changed func() bool) {
		t.Helper()
		want := wantSubst(f, list)
		got, _ := impl.SubstForm(f, list)
		overwrite(got)
		if again, _ := impl.SubstForm(f, list); changed() || !slices.Equal(again, want) {
			t.Fatalf("SubstForm of %v changes or shares an argument, with %s", f, textsOf(list))
		}
	}
	for n, tr := range append(leafyTrees(), leaf(1), leaf(-8), leaf(14)) {
		f, changed := guarded(tr.list())
		for m := range 4 {
			list := lists[(n*4+m)%len(lists)]
			bound, changedBound := guardedSeq(list)
			check(f, bound.Forms, func() bool { return changed() || changedBound() })
			packed, changedPacked := packedSeq(list)
			check(f, packed.Forms, func() bool { return changed() || changedPacked() })
		}
		check(f, slices.Repeat([][]int64{f}, 8), changed)
	}
	for _, bad := range invalidLists() {
		f, changed := guarded(bad)
		check(f, boundBy("A=B"), changed)
		check([]int64{1}, slices.Repeat([][]int64{f}, 8), changed)
	}
	// What is returned stays when the arguments are changed.
	for n := range 8 {
		for _, atom := range []int64{int64(n + 1), -int64(n + 1)} {
			f, list := []int64{atom}, slices.Repeat([][]int64{{11, 1, -2}}, 8)
			got, _ := impl.SubstForm(f, list)
			overwrite(f)
			overwrite(list[n])
			wantList(t, "SubstForm after a change of its arguments", got, map[bool][]int64{true: {11, 1, -2}, false: {12, -1, 2}}[atom > 0])
		}
	}
}

func TestSubstSeqs(t *testing.T) {
	found, limits := map[bool]int{}, map[int]int{}
	lists := someBindings()
	seed := uint64(73)
	for n, trees := range someSequents() {
		for m := range 6 {
			list := lists[(n*6+m*5)%len(lists)]
			found[checkSubstSeq(t, seqOfTrees(trees), list)]++
			var others []tree
			for _, f := range trees {
				others = append(others, spread(f, &seed))
			}
			found[checkSubstSeq(t, seqOfTrees(others), list)]++
			size := 0
			for _, f := range others {
				size += len(f.put(list).list())
			}
			limits[size]++
		}
	}
	if found[true] < 2000 || found[false] < 2000 || limits[60] < 20 || limits[61] < 20 {
		t.Fatal("too few sequents", found, limits[60], limits[61])
	}
	q, ok := impl.SubstSeq(seqOf([]int64{1}, []int64{-1}, []int64{12, 1, -2}, []int64{3}), boundBy("A=(B*C), B=~A"))
	if text := impl.SeqText(q); !ok || text != "(B*C), (~B|~C), ((B*C)|A), C" {
		t.Fatal("SubstSeq", text, ok)
	}
	for _, empty := range []impl.Seq{{}, {Forms: [][]int64{}}} {
		if q, ok := impl.SubstSeq(empty, boundBy("A=B")); !ok || len(q.Forms) != 0 {
			t.Fatal("SubstSeq of the empty sequent", q.Forms, ok)
		}
	}
}

// The formulas and the sequent may have as many symbols as a valid sequent, and not one more.
func TestLimitOfSubstSeqs(t *testing.T) {
	for count := range 11 {
		for size := 1; size <= 24; size++ {
			for wrapped := range 3 {
				forms := slices.Repeat([][]int64{bangs(wrapped + 1)}, count)
				for n := range forms {
					if n%2 == 1 {
						forms[n] = dualList(forms[n])
					}
				}
				list := noElements()
				list[0] = bangs(size)
				total := size + wrapped
				if ok := checkSubstSeq(t, impl.Seq{Forms: forms}, list); ok != (count == 0 || total <= 24 && count*total <= 60) {
					t.Fatal("SubstSeq", count, size, wrapped, ok)
				}
			}
		}
	}
	// One formula only becomes longer: 24 + 24 + 12 symbols, and one more.
	for size := 1; size <= 14; size++ {
		list := noElements()
		list[7] = bangs(size)
		for place := range 3 {
			forms := slices.Insert([][]int64{bangs(24), dualList(bangs(24))}, place, []int64{-8})
			if ok := checkSubstSeq(t, impl.Seq{Forms: forms}, list); ok != (size <= 12) {
				t.Fatal("SubstSeq of long formulas", size, place, ok)
			}
		}
	}
}

func TestSubstOfNoSeq(t *testing.T) {
	refuse := func(q impl.Seq, list [][]int64) {
		t.Helper()
		if got, ok := impl.SubstSeq(q, list); ok || len(got.Forms) > 0 || checkSubstSeq(t, q, list) {
			t.Fatalf("SubstSeq of %v = %v, %v with %s", q.Forms, got.Forms, ok, textsOf(list))
		}
	}
	none, full := noElements(), slices.Repeat([][]int64{{13}}, 8)
	brokenSeqs(func(q impl.Seq) {
		if len(q.Forms) < 5 {
			refuse(q, none)
			refuse(q, full)
		}
	})
	for _, trees := range overLimits() {
		refuse(seqOfTrees(trees), none)
		refuse(seqOfTrees(trees), full)
	}
	noBindings(func(list [][]int64) {
		for _, q := range []impl.Seq{{}, seqOf([]int64{1}), seqOf([]int64{13}, []int64{-8}), seqOf([]int64{11}), seqOf(nil)} {
			refuse(q, list)
		}
	})
}

// SubstSeq changes no argument, and its result shares no memory with one or within itself.
func TestSubstSeqsUnshared(t *testing.T) {
	lists := someBindings()
	for n, trees := range slices.Concat(someSequents()[:150], overLimits()) {
		list := lists[n*7%len(lists)]
		bound, changedBound := guardedSeq(list)
		call := func(q impl.Seq) impl.Seq { out, _ := impl.SubstSeq(q, bound.Forms); return out }
		q, changed := guardedSeq(listsOf(trees))
		checkSeqUnshared(t, "SubstSeq", call, q, func() bool { return changed() || changedBound() })
		q, changed = packedSeq(listsOf(trees))
		checkSeqUnshared(t, "SubstSeq", call, q, func() bool { return changed() || changedBound() })
		got := call(q)
		want := copyOf(got)
		for _, f := range slices.Concat(q.Forms, bound.Forms) {
			overwrite(f)
		}
		wantForms(t, "SubstSeq after a change of its arguments", got, want)
	}
	// One list serves as all formulas and as all elements.
	for _, plain := range [][]int64{{1}, {-8}, {13}, {11, 1, -2}} {
		f, changed := guarded(plain)
		same := slices.Repeat([][]int64{f}, 8)
		call := func(q impl.Seq) impl.Seq { out, _ := impl.SubstSeq(q, same); return out }
		checkSeqUnshared(t, "SubstSeq with one list", call, impl.Seq{Forms: same[:3]}, changed)
		checkSeqUnshared(t, "SubstSeq with one list", call, impl.Seq{Forms: same}, changed)
	}
	brokenSeqs(func(broken impl.Seq) {
		if q, changed := guardedSeq(broken.Forms); len(q.Forms) < 4 && (checkSubstSeq(t, q, lists[3]) || changed()) {
			t.Fatal("SubstSeq has a result or changes its argument", broken.Forms)
		}
	})
}
