package tests

import (
	"math"
	"slices"
	"testing"

	"loop.example/g00872/impl"
)

// netOfProof is a proof and its net, written out.
type netOfProof struct{ proof, net string }

// netsOfProofs are multiplicative proofs with every rule in every order, with axioms of compound formulas, with cuts and exchanges, and with
// premises that are not the steps just before.
var netsOfProofs = []netOfProof{
	{"ax A\n", "A, ~A; ax 0 1; 0 1"}, {"ax ~A\n", "~A, A; ax 0 1; 0 1"}, {"ax H\n", "H, ~H; ax 0 1; 0 1"}, {"ax (A*~B)\n", "(A*~B), (~A|B); ax 0 1; 0 1"}, {"ax ((A|B)*C)\n", "((A|B)*C), ((~A*~B)|~C); ax 0 1; 0 1"},
	{"ax A\npar 0 0 1\n", "A, ~A, (A|~A); ax 0 1, par 0 1 2; 2"}, {"ax A\npar 0 1 0\n", "A, ~A, (~A|A); ax 0 1, par 1 0 2; 2"}, {"ax (A|B)\npar 0 1 0\n", "(A|B), (~A*~B), ((~A*~B)|(A|B)); ax 0 1, par 1 0 2; 2"},
	{"ax A\nswap 0 0 1\n", "A, ~A; ax 0 1; 1 0"}, {"ax A\nswap 0 0 1\nswap 1 0 1\n", "A, ~A; ax 0 1; 0 1"}, {"ax A\nswap 0 0 1\npar 1 0 1\n", "A, ~A, (~A|A); ax 0 1, par 1 0 2; 2"},
	{"ax A\nax B\ntensor 0 1 0 0\n", "A, ~A, B, ~B, (A*B); ax 0 1, ax 2 3, tensor 0 2 4; 1 3 4"}, {"ax A\nax B\ntensor 0 1 0 1\nswap 2 0 2\n", "A, ~A, B, ~B, (A*~B); ax 0 1, ax 2 3, tensor 0 3 4; 4 2 1"},
	{"ax A\nax B\ntensor 1 0 1 0\n", "A, ~A, B, ~B, (~B*A); ax 0 1, ax 2 3, tensor 3 0 4; 2 1 4"}, {"ax A\nax B\ntensor 1 0 0 1\n", "A, ~A, B, ~B, (B*~A); ax 0 1, ax 2 3, tensor 2 1 4; 3 0 4"},
	{"ax A\nax A\ntensor 0 1 1 0\n", "A, ~A, A, ~A, (~A*A); ax 0 1, ax 2 3, tensor 1 2 4; 0 3 4"},
	{"ax A\nax A\ncut 0 1 1 0\n", "A, ~A, A, ~A; ax 0 1, ax 2 3, cut 1 2; 0 3"}, {"ax A\nax A\ncut 0 1 0 1\n", "A, ~A, A, ~A; ax 0 1, ax 2 3, cut 0 3; 1 2"}, {"ax A\nax A\ncut 1 0 0 1\n", "A, ~A, A, ~A; ax 0 1, ax 2 3, cut 2 1; 3 0"},
	{"ax A\nax ~A\ncut 1 0 1 1\n", "A, ~A, ~A, A; ax 0 1, ax 2 3, cut 3 1; 2 0"}, {"ax (A|B)\nax (A|B)\ncut 0 1 0 1\n", "(A|B), (~A*~B), (A|B), (~A*~B); ax 0 1, ax 2 3, cut 0 3; 1 2"},
	{"ax A\nax B\ntensor 0 1 0 0\npar 2 0 1\n", "A, ~A, B, ~B, (A*B), (~A|~B); ax 0 1, ax 2 3, tensor 0 2 4, par 1 3 5; 4 5"},
	{"ax A\nax B\ntensor 0 1 0 0\npar 2 2 0\n", "A, ~A, B, ~B, (A*B), ((A*B)|~A); ax 0 1, ax 2 3, tensor 0 2 4, par 4 1 5; 3 5"},
	{"ax A\nax B\ntensor 0 1 1 1\npar 2 0 1\nswap 3 0 1\n", "A, ~A, B, ~B, (~A*~B), (A|B); ax 0 1, ax 2 3, tensor 1 3 4, par 0 2 5; 5 4"},
	// A step swap creates nothing.
	{"ax A\nswap 0 0 1\nax B\ntensor 1 2 0 0\n", "A, ~A, B, ~B, (~A*B); ax 0 1, ax 2 3, tensor 1 2 4; 0 3 4"}, {"ax A\nax B\nswap 1 0 1\nswap 0 0 1\ntensor 2 3 0 1\n", "A, ~A, B, ~B, (~B*A); ax 0 1, ax 2 3, tensor 3 0 4; 2 1 4"},
	// The premises stand in other orders, and the steps of different parts alternate.
	{"ax A\nax B\nax C\npar 0 0 1\ntensor 1 2 0 0\ntensor 4 3 2 0\n", "A, ~A, B, ~B, C, ~C, (A|~A), (B*C), ((B*C)*(A|~A)); ax 0 1, ax 2 3, ax 4 5, par 0 1 6, tensor 2 4 7, tensor 7 6 8; 3 5 8"},
	{"ax A\nax B\npar 1 1 0\nax A\ncut 3 0 1 0\npar 4 0 1\ntensor 5 2 0 0\n", "A, ~A, B, ~B, (~B|B), A, ~A, (A|~A), ((A|~A)*(~B|B)); ax 0 1, ax 2 3, par 3 2 4, ax 5 6, cut 6 0, par 5 1 7, tensor 7 4 8; 8"},
	{"ax A\nax A\ntensor 0 1 0 0\nax ~A\nax ~A\ntensor 3 4 1 1\npar 5 0 1\nswap 2 1 2\npar 7 2 0\ncut 8 6 0 1\n",
		"A, ~A, A, ~A, (A*A), ~A, A, ~A, A, (A*A), (~A|~A), (~A|~A); ax 0 1, ax 2 3, tensor 0 2 4, ax 5 6, ax 7 8, tensor 6 8 9, par 5 7 10, par 3 1 11, cut 4 10; 11 9"},
	// The proof of one formula is cut with an axiom of it.
	{"ax A\npar 0 0 1\nax (A|~A)\ncut 2 1 1 0\n", "A, ~A, (A|~A), (A|~A), (~A*A); ax 0 1, par 0 1 2, ax 3 4, cut 4 2; 3"}, {"ax A\npar 0 0 1\nax (~A*A)\ncut 1 2 0 0\n", "A, ~A, (A|~A), (~A*A), (A|~A); ax 0 1, par 0 1 2, ax 3 4, cut 2 3; 4"},
	// Three positions, one of which stays.
	{"ax A\nax B\ntensor 0 1 0 0\nswap 2 0 1\n", "A, ~A, B, ~B, (A*B); ax 0 1, ax 2 3, tensor 0 2 4; 3 1 4"}, {"ax A\nax B\ntensor 0 1 0 0\nswap 2 1 2\n", "A, ~A, B, ~B, (A*B); ax 0 1, ax 2 3, tensor 0 2 4; 1 4 3"},
	{"ax A\nax B\ntensor 0 1 0 0\npar 2 0 2\n", "A, ~A, B, ~B, (A*B), (~A|(A*B)); ax 0 1, ax 2 3, tensor 0 2 4, par 1 4 5; 3 5"},
}

func TestNetsOfProofsWrittenOut(t *testing.T) {
	for _, c := range netsOfProofs {
		list := mustReadProof(t, c.proof)
		if got, ok := impl.NetOf(list); !ok || !sameNet(got, netOf(c.net)) || !impl.MultiplicativeProof(list) {
			t.Fatalf("NetOf of %q = %v with%s\ninstead of%s", c.proof, ok, describeNet(got), describeNet(netOf(c.net)))
		}
		if !checkNetOf(t, list) {
			t.Fatalf("the tests do not know the net of %q", c.proof)
		}
	}
}

// The example of the document: the net of an axiom and a par is that of LinkNet.
func TestNetOfAxiomAndPar(t *testing.T) {
	for _, places := range [][2]int64{{0, 1}, {1, 0}} {
		one, _ := impl.AxiomNet([]int64{1})
		want, _ := impl.LinkNet(one, par, places[0], places[1])
		if got, ok := impl.NetOf([]impl.Step{axiom(1), step(par, 0, -1, places[0], places[1])}); !ok || !sameNet(got, want) {
			t.Fatalf("NetOf = %v with%s", ok, describeNet(got))
		}
	}
}

// Multiplicative proofs have nets with their conclusions, all of which are balanced.
func TestNetsOfSomeProofs(t *testing.T) {
	rules, sizes, starts, far, compound := map[int64]int{}, map[int]int{}, map[int]int{}, 0, 0
	for _, list := range someMultProofs() {
		if !checkNetOf(t, list) {
			t.Fatalf("no net of%s", describe(list))
		}
		if conclusion, ok := impl.ConclusionOf(list); !ok || !impl.BalancedSeq(conclusion) {
			t.Fatalf("the conclusion is %v of%s", conclusion, describe(list))
		}
		for k, s := range list {
			rules[s.Rule]++
			if s.A >= 0 && s.A != int64(k)-1 && s.B != int64(k)-1 {
				far++
			}
			if len(s.Form) > 1 {
				compound++
			}
		}
		sizes[len(list)]++
		starts[len(endOfProof(list))]++
	}
	for _, rule := range multRules {
		if rules[rule] < 300 {
			t.Fatal("too few steps", rules)
		}
	}
	if sizes[40] < 30 || sizes[39] < 2 || starts[1] < 20 || starts[2] < 50 || starts[10] < 3 || far < 200 || compound < 200 {
		t.Fatal("too few proofs", sizes, starts, far, compound)
	}
}

// Every part of a multiplicative proof is one, and has a net with a balanced conclusion.
func TestNetsOfParts(t *testing.T) {
	parts := 0
	for n, list := range someMultProofs() {
		for k := range int64(len(list)) {
			part, ok := impl.SubProof(list, k)
			conclusion, _ := impl.ConclusionOf(part)
			if !ok || !impl.MultiplicativeProof(part) || !impl.BalancedSeq(conclusion) {
				t.Fatalf("the part %d is not multiplicative, of%s", k, describe(list))
			}
			if n%20 == 0 {
				checkNetOf(t, part)
				parts++
			}
		}
	}
	if parts < 300 {
		t.Fatal("too few parts", parts)
	}
}

// The net of a proof that is combined or extended is made by UnionNet and LinkNet, if the premises stand one behind the other.
func TestNetsOfCombinedProofs(t *testing.T) {
	lists, found := someMultProofs(), map[int64]int{}
	for n, p := range lists {
		q := lists[(n*7+3)%len(lists)]
		if n%2 == 0 {
			// There are cuts of this proof with the other one.
			q = []impl.Step{axiom(endOfProof(p)[0]...), step(swap, 0, -1, 0, 1)}
		}
		first, _ := impl.NetOf(p)
		second, _ := impl.NetOf(q)
		for _, rule := range []int64{cut, tensor, par, swap} {
			for _, places := range [][2]int64{{0, 0}, {0, 1}, {1, 0}, {1, 1}, {0, 2}, {2, 1}} {
				i, j := places[0], places[1]
				if rule == par || rule == swap {
					list, ok := impl.ExtendedProof(p, step(rule, 0, 0, i, j))
					want := copyNet(first)
					if ok && rule == swap {
						want.Concl[i], want.Concl[j] = want.Concl[j], want.Concl[i]
					} else if ok {
						want, ok = impl.LinkNet(first, par, i, j)
					}
					found[rule] += wantNetOfMade(t, list, ok, want)
				} else if list, ok := impl.CombinedProof(p, q, step(rule, 0, 0, i, j)); ok {
					want, fits := impl.UnionNet(first, second)
					if fits {
						want, fits = impl.LinkNet(want, rule, i, int64(len(first.Concl))+j)
					}
					found[rule] += wantNetOfMade(t, list, fits, want)
				}
			}
		}
	}
	for rule, least := range map[int64]int{cut: 30, tensor: 300, par: 300, swap: 300} {
		if found[rule] < least {
			t.Fatal("too few proofs", found)
		}
	}
}

// wantNetOfMade compares the net of a proof with the expected one, and returns 1 if there is one.
func wantNetOfMade(t *testing.T, list []impl.Step, ok bool, want impl.Net) int {
	t.Helper()
	if !ok {
		want = impl.Net{}
	}
	if got, gotOk := impl.NetOf(list); gotOk != ok || !sameNet(got, want) {
		t.Fatalf("NetOf = %v with%s\ninstead of %v with%s\nof%s", gotOk, describeNet(got), ok, describeNet(want), describe(list))
	}
	if ok {
		return 1
	}
	return 0
}

// The identity proof of a formula has a net with an axiom for each leaf, and the net of its axiom has one axiom.
func TestNetsOfIdentityProofs(t *testing.T) {
	seed, found := uint64(104), map[bool]int{}
	for n := range 300 {
		f := multTree(1+2*(n%12), &seed)
		list, ok := impl.IdentityProof(f.list())
		found[ok]++
		if ok != checkNetOf(t, list) {
			t.Fatalf("no net of the identity proof of %s", f.text())
		}
		if n, _ := impl.NetOf(list); ok && (!impl.AtomicNet(n) || len(impl.LinksOfKind(n, ax)) != len(f.leaves()) || len(impl.LinksOfKind(n, cut)) > 0) {
			t.Fatalf("the net of the identity proof of %s is%s", f.text(), describeNet(n))
		}
		got, gotOk := impl.NetOf([]impl.Step{axiom(f.list()...)})
		if want, _ := impl.AxiomNet(f.list()); !gotOk || !sameNet(got, want) {
			t.Fatalf("NetOf of the axiom of %s = %v with%s", f.text(), gotOk, describeNet(got))
		}
	}
	if found[true] < 200 || found[false] < 2 {
		t.Fatal("too few formulas", found)
	}
}

// A net of exactly 48 wires is the net of a proof, and one of more is not, although the proof is multiplicative and has a conclusion.
func TestLimitOfWiresOfProofs(t *testing.T) {
	reached := 0
	for _, list := range fullProofs() {
		if !checkNetOf(t, list) {
			t.Fatalf("no net of%s", describe(list))
		}
		if n, _ := impl.NetOf(list); len(n.Wires) == 48 && len(list) >= 38 {
			reached++
		}
	}
	if reached != 7 {
		t.Fatal("too few nets of 48 wires", reached)
	}
	for _, list := range overfullProofs() {
		conclusion, ok := impl.ConclusionOf(list)
		wires, _ := madeBefore(list, int64(len(list)))
		if !ok || wires != 49 && wires != 51 || !impl.MultiplicativeProof(list) || !impl.BalancedSeq(conclusion) {
			t.Fatalf("no multiplicative proof with 49 wires, but %d:%s", wires, describe(list))
		}
		if n, ok := impl.NetOf(list); ok || !sameNet(n, impl.Net{}) || checkNetOf(t, list) {
			t.Fatalf("NetOf has a result for%s", describe(list))
		}
	}
}

// A proof of ten formulas, and one of a single formula after all of them are joined.
func TestNetsOfTenFormulas(t *testing.T) {
	list := []impl.Step{axiom(1)}
	for n := range int64(8) {
		list = both(list, []impl.Step{axiom(n - 8)}, tensor, n%2, 1-n%2)
	}
	if !checkNetOf(t, list) || len(endOfProof(list)) != 10 {
		t.Fatalf("no net of ten formulas:%s", describe(list))
	}
	if _, ok := impl.NetOf(both(list, []impl.Step{axiom(1)}, tensor, 0, 0)); ok {
		t.Fatal("NetOf has a result for eleven formulas")
	}
	for count := int64(9); count >= 1; count-- {
		next := then(list, par, count, 0)
		if !isProof(next) {
			// The formula that has grown is too long.
			next = then(list, par, 0, 1)
		}
		if list = next; checkNetOf(t, list) != isProof(list) || isProof(list) && int64(len(endOfProof(list))) != count {
			t.Fatal("no net of fewer formulas", count)
		}
	}
}

// Proofs of every number of steps up to 40 have nets; a list of more steps is no proof.
func TestLimitOfStepsOfNets(t *testing.T) {
	for count := range 43 {
		chain := []impl.Step{axiom(1)}
		for len(chain) < count-1 {
			chain = both(chain, []impl.Step{axiom(1)}, cut, 1, 0)
		}
		for _, list := range [][]impl.Step{padded([]impl.Step{axiom(1)}, count), padded([]impl.Step{axiom(2), axiom(3), step(tensor, 1, 0, 0, 0)}, max(count, 3)), padded(chain, count)} {
			if ok := checkNetOf(t, list); ok != (len(list) <= 40) || impl.MultiplicativeProof(list) != ok {
				t.Fatal("NetOf", count, ok)
			}
		}
	}
}

// Lists that are no proof, and the empty one, have no net.
func TestNetsOfNoProof(t *testing.T) {
	for _, list := range noProofs() {
		if checkNetOf(t, list) || impl.MultiplicativeProof(list) {
			t.Fatalf("NetOf has a result for%s", describe(list))
		}
	}
	for _, text := range []string{
		"", "ax A\nax B\n", "ax A\nax B\ncut 0 1 0 1\n", "ax A\nax A\ncut 0 1 0 0\n", "ax A\npar 0 0 0\n", "ax A\npar 0 0 2\n", "ax A\nswap 0 1 0\n", "ax A\nswap 0 0 0\n", "ax A\ntensor 0 0 0 1\n",
		"par 0 0 1\n", "ax A\nax A\npar 0 0 1\n", "ax A\npar 0 0 1\npar 0 0 1\n", "ax A\ncut 0 0 0 1\n", "ax A\nax A\ntensor 0 1 2 0\n", "ax (A*B)\nax A\ncut 0 1 0 1\n", "ax A\nax B\nax C\ntensor 0 1 0 0\n",
	} {
		list, line := wantReadProof(text)
		if line != 0 || isProof(list) || checkNetOf(t, list) {
			t.Fatalf("%q is a proof", text)
		}
	}
}

// Valid proofs with another rule, or with an axiom of another fragment, are not multiplicative, wherever that step stands.
func TestNetsOfOtherProofs(t *testing.T) {
	for _, text := range []string{
		"one\n", "one\nbot 0\n", "ax A\nbot 0\n", "ax A\nax A\nwith 0 1 0 0\n", "ax A\nplusl 0 0 B\n", "ax A\nplusr 0 0 B\n", "ax A\nder 0 1\n", "ax A\nder 0 1\nprom 1 0\n", "ax A\nweak 0 B\n",
		"ax A\nweak 0 A\nweak 1 A\ncon 2 2 3\n", "ax A\npar 0 0 1\nprom 1 0\n", "one\nax A\nbot 1\ncut 0 2 0 2\n", "ax A\npar 0 0 1\none\ntensor 1 2 0 0\n", "ax A\nax B\nbot 0\ntensor 1 2 0 0\n",
		"ax 1\n", "ax _\n", "ax (A*1)\n", "ax (_|A)\n", "ax !A\n", "ax ?A\n", "ax (A+B)\n", "ax (A&B)\n", "ax ((A*B)|!C)\n", "ax ((A&B)*C)\n", "ax (A|(1*B))\n", "ax (!1+_)\n",
		"ax 1\npar 0 0 1\n", "ax 1\nax 1\ncut 0 1 0 1\n", "ax A\nax 1\ntensor 0 1 0 0\n", "ax !A\nax B\ntensor 1 0 1 1\nswap 2 0 1\n", "ax (A+B)\nax A\ntensor 0 1 0 1\npar 2 0 1\n", "ax A\nax A\nax _\ntensor 0 2 0 0\ncut 3 1 0 0\n",
	} {
		list := mustReadProof(t, text)
		if checkNetOf(t, list) || impl.MultiplicativeProof(list) {
			t.Fatalf("NetOf has a result for %q", text)
		}
	}
	found := map[bool]int{}
	for _, list := range append(shortProofs(), someProofs()...) {
		found[checkNetOf(t, list)]++
	}
	if found[true] < 50 || found[false] < 500 {
		t.Fatal("too few proofs", found)
	}
}

// Every rule in the place of each step of a proof, other fields, and steps that are left out or put in.
func TestNetsOfChangedProofs(t *testing.T) {
	visited, found := 0, map[bool]int{}
	for n, list := range someMultProofs() {
		if len(list) > 12 || n%3 > 0 {
			continue
		}
		changedSteps(list, func(changed []impl.Step) {
			if visited++; isProof(changed) || visited%50 == 0 {
				found[checkNetOf(t, changed)]++
			}
		})
	}
	if found[true] < 500 || found[false] < 300 {
		t.Fatal("too few lists", found)
	}
}

// Every function returns for lists of many steps and for extreme numbers.
func TestNetsOfGreatLists(t *testing.T) {
	const many = 1 << 18
	long := slices.Repeat([]int64{11}, many)
	for _, list := range [][]impl.Step{
		make([]impl.Step, many), slices.Repeat([]impl.Step{axiom(1)}, many), padded([]impl.Step{axiom(1)}, 3000), {axiom(long...)}, {axiom(bangs(many)...)}, {axiom(1), step(par, 0, -1, 0, 1, long...)},
	} {
		if n, ok := impl.NetOf(list); ok || !sameNet(n, impl.Net{}) || impl.MultiplicativeProof(list) {
			t.Fatal("NetOf has a result for a great list")
		}
	}
	for _, odd := range append(oddNumbers, oddSymbols...) {
		if odd >= 0 && odd <= 2 {
			continue
		}
		for _, list := range [][]impl.Step{
			{step(odd, -1, -1, 0, 0, 1)}, {axiom(1), step(odd, 0, -1, 0, 1)}, {axiom(1), step(par, 0, -1, odd, 1)}, {axiom(1), step(par, 0, -1, 0, odd)}, {axiom(1), step(swap, 0, -1, odd, 1)},
			{axiom(1), step(swap, 0, -1, 0, odd)}, {axiom(1), axiom(1), step(tensor, 0, 1, odd, 0)}, {axiom(1), axiom(1), step(tensor, 0, 1, 0, odd)}, {axiom(1), axiom(1), step(cut, 0, 1, odd, 0)},
			{axiom(1), axiom(1), step(cut, 0, 1, 0, odd)}, {axiom(1), step(par, odd, odd, 0, 1)}, {axiom(1), axiom(1), step(tensor, 0, odd, 0, 0)}, {axiom(1), axiom(1), step(cut, odd, 1, 0, 1)},
			{step(ax, odd, odd, 0, 0, 1)}, {step(ax, -1, -1, odd, 0, 1)}, {step(ax, -1, -1, 0, odd, 1)}, {axiom(1), {Rule: math.MinInt64, A: odd, B: odd, I: odd, J: odd, Form: []int64{odd}}},
		} {
			checkNetOf(t, list)
		}
		if odd < -8 || odd > 8 || odd == 0 {
			if n, ok := impl.NetOf([]impl.Step{axiom(odd)}); (ok || len(n.Wires) > 0) && odd != 13 {
				t.Fatal("NetOf has a result for an axiom of", odd)
			}
		}
	}
}
