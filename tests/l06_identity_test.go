package tests

import (
	"math"
	"slices"
	"testing"

	"loop.example/g00872/impl"
)

// identityTexts are the identity proofs of formulas of every row of the table, written out.
var identityTexts = map[string]string{
	"A":     "ax A\n",
	"~A":    "ax ~A\n",
	"H":     "ax H\n",
	"~H":    "ax ~H\n",
	"1":     "one\nbot 0\n",
	"_":     "one\nbot 0\nswap 1 0 1\n",
	"(A*B)": "ax A\nax B\ntensor 0 1 0 0\npar 2 0 1\n",
	"(B*A)": "ax B\nax A\ntensor 0 1 0 0\npar 2 0 1\n",
	"(A|B)": "ax A\nax B\ntensor 0 1 1 1\npar 2 0 1\nswap 3 0 1\n",
	"(A&B)": "ax A\nplusl 0 1 ~B\nax B\nplusr 2 1 ~A\nwith 1 3 0 0\nswap 4 0 1\n",
	"(A+B)": "ax A\nplusl 0 0 B\nax B\nplusr 2 0 A\nwith 1 3 0 0\n",
	"!A":    "ax A\nder 0 1\nprom 1 0\nswap 2 0 1\n",
	"?A":    "ax A\nder 0 0\nprom 1 0\n",
	"!_":    "one\nbot 0\nswap 1 0 1\nder 2 1\nprom 3 0\nswap 4 0 1\n",
	"(A*A)": "ax A\nax A\ntensor 0 1 0 0\npar 2 0 1\n",
	"(1|_)": "one\nbot 0\none\nbot 2\nswap 3 0 1\ntensor 1 4 1 1\npar 5 0 1\nswap 6 0 1\n",
	"((A|~B)*?C)": "ax A\nax ~B\ntensor 0 1 1 1\npar 2 0 1\nswap 3 0 1\n" +
		"ax C\nder 5 0\nprom 6 0\ntensor 4 7 0 0\npar 8 0 1\n",
	"(!A&(B+~C))": "ax A\nder 0 1\nprom 1 0\nswap 2 0 1\nplusl 3 1 (~B&C)\n" +
		"ax B\nplusl 5 0 ~C\nax ~C\nplusr 7 0 B\nwith 6 8 0 0\nplusr 9 1 ?~A\nwith 4 10 0 0\nswap 11 0 1\n",
	"((A&~B)+!C)": "ax A\nplusl 0 1 B\nax ~B\nplusr 2 1 ~A\nwith 1 3 0 0\nswap 4 0 1\nplusl 5 0 !C\n" +
		"ax C\nder 7 1\nprom 8 0\nswap 9 0 1\nplusr 10 0 (A&~B)\nwith 6 11 0 0\n",
	"?(A|1)": "ax A\none\nbot 1\ntensor 0 2 1 1\npar 3 0 1\nswap 4 0 1\nder 5 0\nprom 6 0\n",
}

func TestIdentityTexts(t *testing.T) {
	for form, text := range identityTexts {
		f := meaningOf(form)
		got, ok := impl.IdentityProof(f.list())
		if !ok || !sameSteps(got, mustReadProof(t, text)) || impl.ProofText(got) != text {
			t.Fatalf("IdentityProof of %s = %v with%s\ninstead of %q", form, ok, describe(got), text)
		}
		if steps := checkIdentity(t, f); steps != len(got) {
			t.Fatal("the tests expect another number of steps", form, steps)
		}
	}
}

// Every formula has an identity proof with atomic axioms, unless it is too long.
func TestIdentityProofs(t *testing.T) {
	first, sizes := map[int64]int{}, map[int]int{}
	for _, f := range someTrees() {
		steps := checkIdentity(t, f)
		sizes[steps]++
		if steps <= 40 {
			first[f.symbol]++
		}
	}
	for op := int64(11); op <= 18; op++ {
		if want := map[bool]int{true: 1, false: 50}[op == 13 || op == 14]; first[op] < want {
			t.Fatal("too few formulas with the operator", op, first[op])
		}
	}
	for n := int64(1); n <= 8; n++ {
		if first[n] == 0 || first[-n] == 0 {
			t.Fatal("the atom or the dual atom is missing", n)
		}
	}
	if sizes[39] < 10 || sizes[40] < 10 || sizes[41] < 10 || sizes[42] < 10 {
		t.Fatal("too few proofs of 39 to 42 steps", sizes)
	}
}

// chain is an atom under OpBang, which adds three steps, and OpQuest, which adds two.
func chain(bangs, quests int) tree {
	f := leaf(-2)
	for range quests {
		f = unary(18, f)
	}
	for range bangs {
		f = unary(17, f)
	}
	return f
}

// A proof of exactly MaxSteps steps is returned, and one of more steps is not.
func TestLimitOfIdentityProofs(t *testing.T) {
	for bangs := range 24 {
		for quests := range 24 - bangs {
			steps := 1 + 3*bangs + 2*quests
			if got := checkIdentity(t, chain(bangs, quests)); got != steps {
				t.Fatal("the tests expect another number of steps", bangs, quests, got)
			}
			list, ok := impl.IdentityProof(chain(bangs, quests).list())
			if ok != (steps <= 40) || ok && len(list) != steps || !ok && len(list) != 0 {
				t.Fatal("IdentityProof of a chain", bangs, quests, ok, len(list))
			}
		}
	}
	// Seven units OpBot joined by OpPar have 7*3 + 6*3 = 39 steps; another formula OpOne for OpBot takes one away.
	f := leaf(14)
	for range 6 {
		f = binary(12, f, leaf(14))
	}
	for form, steps := range map[string]int{
		f.text(): 39, binary(12, leaf(1), f).text(): 43, binary(11, f, leaf(1)).text(): 42, unary(18, f).text(): 41, unary(17, f).text(): 42,
		unary(18, binary(12, f.kids[0], leaf(13))).text(): 40, unary(17, binary(12, f.kids[0], leaf(13))).text(): 41,
	} {
		list, ok := impl.IdentityProof(meaningOf(form).list())
		if checkIdentity(t, meaningOf(form)) != steps || ok != (steps <= 40) || ok && len(list) != steps {
			t.Fatal("IdentityProof", form, ok, len(list))
		}
	}
}

// Formulas of 24 symbols have a proof or not, by the number of steps: twelve atoms joined by OpTensor or OpPar, which adds one step more.
func TestIdentityOfLongFormulas(t *testing.T) {
	for pars := range 12 {
		f := leaf(1)
		for n := range 11 {
			if n < pars {
				f = binary(12, f, leaf(-2))
			} else {
				f = binary(11, leaf(3), f)
			}
		}
		f = unary(18, f)
		_, ok := impl.IdentityProof(f.list())
		if steps := checkIdentity(t, f); len(f.list()) != 24 || steps != 36+pars || ok != (pars <= 4) {
			t.Fatal("IdentityProof", f.text(), steps, ok)
		}
	}
	if steps := checkIdentity(t, treeOf(bangs(24))); steps != 70 {
		t.Fatal("the longest proof has another number of steps", steps)
	}
}

func TestIdentityOfNoFormula(t *testing.T) {
	check := func(f []int64) {
		if list, ok := impl.IdentityProof(f); !isForm(f) && (ok || len(list) > 0) {
			t.Fatalf("IdentityProof(%v) = %v, %v", f, list, ok)
		}
	}
	for _, f := range invalidLists() {
		check(f)
	}
	shortLists(check)
	check(slices.Repeat([]int64{1}, 1<<16))
	check(slices.Repeat([]int64{11}, 1<<16))
	check(bangs(1 << 16))
	check([]int64{11, 1, math.MinInt64})
}

func TestIdentityUnshared(t *testing.T) {
	for n, f := range someTrees() {
		if steps := wantIdentity(f); len(steps) <= 40 && n%3 == 0 {
			list, changed := guarded(f.list())
			call := func() ([]impl.Step, bool) { return impl.IdentityProof(list) }
			checkStepsUnshared(t, "IdentityProof of "+f.text(), call, steps, changed)
			got, _ := impl.IdentityProof(list)
			overwrite(list)
			if !sameSteps(got, steps) {
				t.Fatal("IdentityProof changes with its argument", f.text())
			}
		}
	}
	for _, f := range invalidLists() {
		list, changed := guarded(f)
		if _, ok := impl.IdentityProof(list); ok || changed() {
			t.Fatal("IdentityProof has a result or changes its argument", f)
		}
	}
}
