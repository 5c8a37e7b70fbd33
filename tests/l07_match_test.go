package tests

import (
	"fmt"
	"math"
	"slices"
	"testing"

	"loop.example/g00872/impl"
)

// matchCase is a pattern, a formula and the text of the binding, written out; "none" stands for no binding.
type matchCase struct{ pattern, form, binding string }

func TestMatchTexts(t *testing.T) {
	for _, c := range []matchCase{
		{"(A|~A)", "(~B|B)", "A=~B"}, {"(A|~A)", "(A|A)", "none"}, {"A", "A", "A=A"}, {"~A", "~A", "A=A"}, {"A", "~A", "A=~A"}, {"~A", "A", "A=~A"},
		{"A", "B", "A=B"}, {"~H", "(B&1)", "H=(~B+_)"}, {"H", "!?_", "H=!?_"}, {"~C", "(A*B)", "C=(~A|~B)"}, {"A", "1", "A=1"}, {"~A", "1", "A=_"},
		// Units have no operands, and nothing takes their place.
		{"1", "1", ""}, {"_", "_", ""}, {"1", "_", "none"}, {"_", "1", "none"}, {"1", "A", "none"}, {"_", "!A", "none"}, {"1", "(1*1)", "none"},
		// Each operator, with another operator of as many operands, with fewer or more, and with none.
		{"(A*B)", "(C*D)", "A=C, B=D"}, {"(A|B)", "(!C|1)", "A=!C, B=1"}, {"(A+B)", "(B+A)", "A=B, B=A"}, {"(A&B)", "((A*A)&~B)", "A=(A*A), B=~B"},
		{"!A", "!~C", "A=~C"}, {"?~A", "?(B+C)", "A=(~B&~C)"}, {"!!A", "!!!B", "A=!B"}, {"!!A", "!A", "none"}, {"!!A", "!?A", "none"},
		{"(A*B)", "(A|B)", "none"}, {"(A|B)", "(A+B)", "none"}, {"(A+B)", "(A&B)", "none"}, {"(A&B)", "(A*B)", "none"}, {"!A", "?A", "none"}, {"?A", "!A", "none"},
		{"(A*B)", "!A", "none"}, {"!A", "(A*B)", "none"}, {"(A*B)", "A", "none"}, {"?A", "A", "none"}, {"!A", "1", "none"}, {"(A|B)", "_", "none"},
		// An atom that occurs several times has one element.
		{"(A*A)", "(B*B)", "A=B"}, {"(A*A)", "(B*~B)", "none"}, {"(A*~A)", "(B*~B)", "A=B"}, {"(~A*A)", "(B*~B)", "A=~B"}, {"(~A*~A)", "((A|B)*(A|B))", "A=(~A*~B)"},
		{"(A|~A)", "((B*C)|(~B|~C))", "A=(B*C)"}, {"(A|~A)", "((B*C)|(~B|C))", "none"}, {"(A|~A)", "((B*C)|(~B*~C))", "none"}, {"(A&~A)", "(1&_)", "A=1"}, {"(A&~A)", "(1&1)", "none"},
		{"((A*B)|(~B|~A))", "((C*!D)|(?~D|~C))", "A=C, B=!D"}, {"((A*B)|(~B|~A))", "((C*!D)|(!~D|~C))", "none"}, {"((A*B)|(~B|~A))", "((C*!D)|(?~D|C))", "none"},
		{"((A+A)*(A+A))", "((B+B)*(B+B))", "A=B"}, {"((A+A)*(A+A))", "((B+B)*(B+C))", "none"}, {"((A+A)*(A+A))", "((C+B)*(B+B))", "none"}, {"(!A|(A*A))", "(!A|(A*A))", "A=A"},
		// Different atoms may have the same element, and each has its own.
		{"(A*B)", "(A*A)", "A=A, B=A"}, {"(A*B)", "(B*~B)", "A=B, B=~B"}, {"(H*~G)", "(G*H)", "G=~H, H=G"}, {"(A*(B*(C*(D*(E*(F*(G*H)))))))", "(B*(C*(D*(E*(F*(G*(H*A)))))))", "A=B, B=C, C=D, D=E, E=F, F=G, G=H, H=A"},
		{"(A*1)", "(B*1)", "A=B"}, {"(A*1)", "(B*_)", "none"}, {"(1*A)", "(1*1)", "A=1"}, {"(A*1)", "(1*A)", "none"},
	} {
		pattern, f := meaningOf(c.pattern).list(), meaningOf(c.form).list()
		got, ok := impl.MatchForm(pattern, f)
		want := [][]int64(nil)
		if c.binding != "none" {
			want = boundBy(c.binding)
		}
		wantBinding(t, "MatchForm of "+c.pattern+" with "+c.form, got, ok, want)
		if checkMatch(t, pattern, f) != ok || checkMatch(t, dualList(pattern), dualList(f)) != ok {
			t.Fatal("the tests expect another binding", c)
		}
	}
}

// What a binding makes of a pattern matches it: the elements of the atoms that occur are found again, and the others are empty.
func TestMatchSubstituted(t *testing.T) {
	first, found, repeated := map[int64]int{}, 0, 0
	lists := someBindings()
	for n, pattern := range leafyTrees() {
		for m := range 8 {
			list := lists[(n*8+m*13)%len(lists)]
			f := pattern.put(list).list()
			if len(f) > 24 {
				continue
			}
			want, occurs := noElements(), map[int64]int{}
			for _, leaf := range pattern.leaves() {
				atom := max(leaf, -leaf)
				occurs[atom]++
				if want[atom-1] = list[atom-1]; len(list[atom-1]) == 0 {
					want[atom-1] = []int64{atom}
				}
				if occurs[atom] > 2 && len(want[atom-1]) > 1 {
					repeated++
				}
			}
			got, ok := impl.MatchForm(pattern.list(), f)
			if wantBinding(t, fmt.Sprintf("MatchForm(%v, %v)", pattern.list(), f), got, ok, want); !checkMatch(t, pattern.list(), f) {
				t.Fatal("the tests expect no binding", pattern.text(), f)
			}
			first[pattern.symbol]++
			found++
		}
	}
	for op := int64(11); op <= 18; op++ {
		if least := map[bool]int{true: 5, false: 300}[op == 13 || op == 14]; first[op] < least {
			t.Fatal("too few patterns with the operator", op, first[op])
		}
	}
	if found < 4000 || repeated < 300 {
		t.Fatal("too few patterns", found, repeated)
	}
}

// otherSymbols returns symbols with as many operands as a symbol has.
func otherSymbols(symbol int64) []int64 {
	switch symbol {
	case 11, 12, 15, 16:
		return []int64{11, 12, 15, 16}
	case 17, 18:
		return []int64{17, 18}
	}
	return []int64{-symbol, 1, -8, 13, 14}
}

// One symbol of the formula is another one: there is no binding, or another one.
func TestMatchChanged(t *testing.T) {
	found := map[bool]int{}
	lists := someBindings()
	for n, pattern := range leafyTrees() {
		if n%4 > 0 {
			continue
		}
		f := pattern.put(lists[n%len(lists)]).list()
		if len(f) > 24 {
			f = pattern.list()
		}
		for at, symbol := range f {
			for _, other := range otherSymbols(symbol) {
				changed := slices.Clone(f)
				if changed[at] = other; isForm(changed) {
					found[checkMatch(t, pattern.list(), changed)]++
				}
			}
		}
	}
	if found[true] < 1000 || found[false] < 5000 {
		t.Fatal("too few formulas", found)
	}
}

// Pairs of small formulas, most of which do not match, and pairs of longer ones.
func TestMatchPairs(t *testing.T) {
	found := map[bool]int{}
	for n, pattern := range smallTrees() {
		for m, f := range smallTrees() {
			if (n*5+m)%7 == 0 {
				found[checkMatch(t, pattern.list(), f.list())]++
			}
		}
	}
	seed := uint64(74)
	for range 4000 {
		pattern, f := grownTree(1+choose(&seed, 7), &seed), grownTree(1+choose(&seed, 24), &seed)
		found[checkMatch(t, pattern.list(), f.list())]++
		checkMatch(t, f.list(), pattern.list())
	}
	if found[true] < 5000 || found[false] < 100000 {
		t.Fatal("too few pairs", found)
	}
}

// eachBinding calls visit with every binding whose elements of the atoms A and B are among the candidates.
func eachBinding(candidates [][]int64, visit func([][]int64)) {
	for _, a := range candidates {
		for _, b := range candidates {
			list := noElements()
			list[0], list[1] = a, b
			visit(list)
		}
	}
}

// There is no binding but the one that is returned: all parts of the formula and their duals are tried as elements.
func TestMatchIsUnique(t *testing.T) {
	found := map[bool]int{}
	seed := uint64(75)
	a, b := leaf(1), leaf(2)
	patterns := []tree{a, b.dual(), binary(11, a, b), binary(12, a, a), binary(16, a, a.dual()), binary(15, b.dual(), a), unary(17, b),
		binary(12, binary(11, a, b), binary(12, b.dual(), a.dual())), binary(11, a, unary(18, a)), binary(15, binary(15, a, b), binary(15, a, a)), binary(16, leaf(13), a)}
	for _, pattern := range patterns {
		for n := range 60 {
			f := grownTree(1+n%9, &seed)
			if image := pattern.put(chosenBinding(8, 3, &seed)); n%2 == 0 {
				f = image
			}
			if len(f.list()) > 24 {
				continue
			}
			var candidates [][]int64
			for _, part := range f.parts() {
				candidates = append(candidates, part.list(), part.dual().list())
			}
			want := noElements()
			got, ok := impl.MatchForm(pattern.list(), f.list())
			eachBinding(candidates, func(list [][]int64) {
				if !slices.Equal(pattern.put(list).list(), f.list()) {
					return
				}
				for _, leaf := range pattern.leaves() {
					want[max(leaf, -leaf)-1] = list[max(leaf, -leaf)-1]
				}
				wantBinding(t, "MatchForm of "+pattern.text()+" with "+f.text(), got, ok, want)
				found[true]++
			})
			if isFound := len(slices.Concat(want...)) > 0; isFound != ok {
				t.Fatal("MatchForm", pattern.text(), f.text(), ok)
			} else if !isFound {
				found[false]++
			}
		}
	}
	if found[true] < 200 || found[false] < 200 {
		t.Fatal("too few patterns", found)
	}
}

// The longest formulas, as patterns and as elements.
func TestMatchLongForms(t *testing.T) {
	for size := 1; size <= 24; size++ {
		for other := 1; other <= 24; other++ {
			pattern, f := bangs(size), bangs(other)
			got, ok := impl.MatchForm(pattern, f)
			if ok != (size <= other) || checkMatch(t, pattern, f) != ok || ok && len(got[0]) != other-size+1 {
				t.Fatal("MatchForm of chains", size, other, ok)
			}
			pattern[size-1] = -5
			if ok := checkMatch(t, pattern, dualList(f)); ok != (size == 1) {
				t.Fatal("MatchForm of dual chains", size, other, ok)
			}
		}
	}
	// An atom that occurs twelve times, of which one occurrence is another formula.
	pattern, same := leaf(4), leaf(-7)
	for n := range 11 {
		pattern, same = binary(12, pattern, leaf(4)), binary(12, same, leaf(-7))
		if n%3 == 1 {
			pattern.kids[1], same.kids[1] = leaf(-4), leaf(7)
		}
	}
	if !checkMatch(t, pattern.list(), same.list()) {
		t.Fatal("no binding of an atom that occurs twelve times")
	}
	for at, symbol := range same.list() {
		if symbol == 12 {
			continue
		}
		for _, other := range []int64{-symbol, 1, 8, 13, -6} {
			f := same.list()
			if f[at] = other; checkMatch(t, pattern.list(), f) {
				t.Fatal("a binding of an atom to two formulas", at, f)
			}
		}
	}
}

func TestMatchOfNoForm(t *testing.T) {
	refuse := func(pattern, f []int64) {
		t.Helper()
		if got, ok := impl.MatchForm(pattern, f); ok || len(got) > 0 || checkMatch(t, pattern, f) {
			t.Fatalf("MatchForm(%v, %v) = %v, %v", pattern, f, got, ok)
		}
	}
	for _, bad := range invalidLists() {
		for _, good := range [][]int64{{1}, {-8}, {13}, {11, 1, 2}, {17, 1}, bangs(24)} {
			refuse(bad, good)
			refuse(good, bad)
		}
		refuse(bad, bad)
	}
	shortLists(func(f []int64) {
		if got, ok := impl.MatchForm([]int64{1}, f); ok != isForm(f) || !ok && len(got) > 0 {
			t.Fatalf("MatchForm([1], %v) = %v, %v", f, got, ok)
		}
		if got, ok := impl.MatchForm(f, f); ok != isForm(f) || !ok && len(got) > 0 {
			t.Fatalf("MatchForm of %v with itself = %v, %v", f, got, ok)
		}
	})
	refuse(slices.Repeat([]int64{1}, 1<<16), []int64{1})
	refuse([]int64{1}, slices.Repeat([]int64{11}, 1<<16))
	refuse([]int64{math.MinInt64}, []int64{1})
	refuse([]int64{1}, []int64{math.MaxInt64})
}

// MatchForm changes no argument, and its elements share no memory with one or with each other, also if both arguments are one list.
func TestMatchUnshared(t *testing.T) {
	lists := someBindings()
	for n, pattern := range leafyTrees() {
		image := pattern.put(lists[n%len(lists)])
		if n%3 > 0 || len(image.list()) > 24 {
			continue
		}
		p, changedPattern := guarded(pattern.list())
		f, changedForm := guarded(image.list())
		changed := func() bool { return changedPattern() || changedForm() }
		call := func() [][]int64 { out, _ := impl.MatchForm(p, f); return out }
		checkBindingUnshared(t, "MatchForm", call, changed)
		checkBindingUnshared(t, "MatchForm of one list", func() [][]int64 { out, _ := impl.MatchForm(p, p); return out }, changed)
		want := copyOf(seqOf(call()...))
		got := call()
		overwrite(p)
		overwrite(f)
		wantForms(t, "MatchForm after a change of its arguments", seqOf(got...), want)
	}
	for _, bad := range invalidLists() {
		f, changed := guarded(bad)
		if checkMatch(t, f, []int64{1}) || checkMatch(t, []int64{1}, f) || changed() {
			t.Fatal("MatchForm has a result or changes its argument", bad)
		}
	}
}
