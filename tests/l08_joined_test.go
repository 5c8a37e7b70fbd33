package tests

import (
	"slices"
	"testing"

	"loop.example/g00872/impl"
)

// An axiom of every formula of the fragments 0 and 1, compound or not, and of no other list.
func TestAxiomNets(t *testing.T) {
	found := map[bool]int{}
	check := func(f []int64) {
		t.Helper()
		got, ok := impl.AxiomNet(f)
		want, wantOk := wantAxiom(f)
		found[wantNet(t, got, ok, want, wantOk, "AxiomNet of", f)]++
		if q, seqOk := impl.ConclusionSeq(got); ok && (!seqOk || !sameForms(q.Forms, [][]int64{f, dualList(f)})) {
			t.Fatal("ConclusionSeq of an axiom", f, q.Forms, seqOk)
		}
	}
	for _, f := range someTrees() {
		check(f.list())
	}
	seed := uint64(84)
	for n := range 500 {
		check(multTree(1+2*(n%12), &seed).list())
	}
	shortLists(check)
	for _, bad := range invalidLists() {
		check(bad)
	}
	for _, text := range []string{"1", "_", "(A*1)", "(_|A)", "(A+B)", "(A&B)", "!A", "?A", "((A+B)*C)", "(A|(B*!C))", "(1*_)", "((A*B)|(C&D))"} {
		if got, ok := impl.AxiomNet(meaningOf(text).list()); ok || !sameNet(got, impl.Net{}) {
			t.Fatal("AxiomNet", text, got, ok)
		}
	}
	if found[true] < 500 || found[false] < 1000 {
		t.Fatal("too few formulas", found)
	}
}

func TestAxiomNetsWrittenOut(t *testing.T) {
	for form, want := range map[string]string{
		"A": "A, ~A; ax 0 1; 0 1", "~A": "~A, A; ax 0 1; 0 1", "H": "H, ~H; ax 0 1; 0 1", "(A*~B)": "(A*~B), (~A|B); ax 0 1; 0 1", "((A|B)*~H)": "((A|B)*~H), ((~A*~B)|H); ax 0 1; 0 1",
	} {
		if got, ok := impl.AxiomNet(meaningOf(form).list()); !ok || !sameNet(got, netOf(want)) {
			t.Fatalf("AxiomNet of %s = %v with%s", form, ok, describeNet(got))
		}
	}
}

// unionCase holds two nets and their union, written out.
type unionCase struct{ a, b, want string }

func TestUnionsWrittenOut(t *testing.T) {
	for _, c := range []unionCase{
		{"; ; ", "; ; ", "; ; "}, {"A, ~A; ax 0 1; 1 0", "; ; ", "A, ~A; ax 0 1; 1 0"}, {"; ; ", "A, ~A; ax 1 0; 1 0", "A, ~A; ax 1 0; 1 0"},
		{"A, ~A; ax 0 1; 0 1", "B, ~B; ax 0 1; 0 1", "A, ~A, B, ~B; ax 0 1, ax 2 3; 0 1 2 3"}, {"A, ~A; ax 0 1; 1 0", "B, ~B; ax 1 0; 1 0", "A, ~A, B, ~B; ax 0 1, ax 3 2; 1 0 3 2"},
		{"A, ~A, (A|~A); ax 0 1, par 0 1 2; 2", "A, ~A, (A*~A); ax 0 1, tensor 0 1 2; 2", "A, ~A, (A|~A), A, ~A, (A*~A); ax 0 1, par 0 1 2, ax 3 4, tensor 3 4 5; 2 5"},
		{"A, ~A; ax 0 1, cut 0 1; ", "B, ~B; cut 1 0, ax 0 1; ", "A, ~A, B, ~B; ax 0 1, cut 0 1, cut 3 2, ax 2 3; "}, {"A, ~A; ax 0 1; 0 1", "B, ~B; ax 0 1, cut 0 1; ", "A, ~A, B, ~B; ax 0 1, ax 2 3, cut 2 3; 0 1"},
		{"(A|~A), A, ~A; par 1 2 0, ax 2 1; 0", "(B*~B), ~B, B; tensor 2 1 0, ax 1 2; 0", "(A|~A), A, ~A, (B*~B), ~B, B; par 1 2 0, ax 2 1, tensor 5 4 3, ax 4 5; 0 3"},
	} {
		if got, ok := impl.UnionNet(netOf(c.a), netOf(c.b)); !ok || !sameNet(got, netOf(c.want)) {
			t.Fatalf("UnionNet of %q and %q = %v with%s", c.a, c.b, ok, describeNet(got))
		}
	}
}

// The conclusions of a union are those of both nets, and its wires, links and conclusions are as many as both have.
func TestUnions(t *testing.T) {
	found := map[bool]int{}
	nets := someNets()
	for n, a := range nets {
		for m := range 5 {
			b := nets[(n*13+m*101)%len(nets)]
			ok := checkUnion(t, a, b)
			found[ok]++
			got, _ := impl.UnionNet(a, b)
			if !ok {
				continue
			}
			if len(got.Wires) != len(a.Wires)+len(b.Wires) || len(got.Links) != len(a.Links)+len(b.Links) || len(got.Concl) != len(a.Concl)+len(b.Concl) {
				t.Fatalf("UnionNet has%s", describeNet(got))
			}
			p, _ := impl.ConclusionSeq(a)
			q, _ := impl.ConclusionSeq(b)
			if both, ok := impl.ConclusionSeq(got); ok && !sameForms(both.Forms, slices.Concat(p.Forms, q.Forms)) {
				t.Fatalf("the conclusions of UnionNet are %v, not %v and %v", both.Forms, p.Forms, q.Forms)
			}
		}
		for _, pair := range [][2]impl.Net{{a, {}}, {{}, a}} {
			if got, ok := impl.UnionNet(pair[0], pair[1]); !ok || !sameNet(got, a) {
				t.Fatalf("UnionNet with the empty net = %v with%s\ninstead of%s", ok, describeNet(got), describeNet(a))
			}
		}
	}
	if found[true] < 700 || found[false] < 300 {
		t.Fatal("too few unions", found)
	}
}

// Unions of three nets do not depend on which of them are united first.
func TestUnionsOfThree(t *testing.T) {
	nets, found := smallNets(16), 0
	for n, a := range nets {
		b, c := nets[n*7%len(nets)], nets[n*3%len(nets)]
		left, leftOk := impl.UnionNet(a, b)
		right, rightOk := impl.UnionNet(b, c)
		first, firstOk := impl.UnionNet(left, c)
		second, secondOk := impl.UnionNet(a, right)
		if !leftOk || !rightOk || firstOk != secondOk || firstOk && !sameNet(first, second) {
			t.Fatalf("UnionNet of three nets = %v with%s\nor %v with%s", firstOk, describeNet(first), secondOk, describeNet(second))
		}
		found++
	}
	if found < 100 {
		t.Fatal("too few nets", found)
	}
}

// A union of exactly 48 wires or links is accepted, and one of more is not.
func TestLimitsOfUnions(t *testing.T) {
	one, closed := axioms(leaf(1)), netOf("A, ~A; ax 0 1, cut 0 1; ")
	joined := netOf("A, ~A, (A|~A); ax 0 1, par 0 1 2; 2")
	for count := range 26 {
		open := axioms(slices.Repeat([]tree{leaf(1)}, min(count, 24))...)
		if count <= 24 && (checkUnion(t, open, one) != (count < 24) || checkUnion(t, one, open) != (count < 24)) {
			t.Fatal("UnionNet of axioms", count)
		}
		if count <= 24 && (checkUnion(t, open, joined) != (2*count+3 <= 48) || checkUnion(t, joined, open) != (2*count+3 <= 48)) {
			t.Fatal("UnionNet of axioms and a par", count)
		}
		for other := range 25 {
			b := axioms(slices.Repeat([]tree{leaf(-3)}, other)...)
			if checkUnion(t, open, b) != (min(count, 24)+other <= 24) {
				t.Fatal("UnionNet of axioms", count, other)
			}
		}
	}
	full := impl.Net{}
	for count := 1; count <= 26; count++ {
		ok := checkUnion(t, full, closed)
		if ok != (count <= 24) {
			t.Fatal("UnionNet of axioms with a cut each", count, ok)
		}
		if ok {
			full, _ = impl.UnionNet(full, closed)
		}
	}
	if len(full.Wires) != 48 || len(full.Links) != 48 || !checkUnion(t, full, impl.Net{}) || !checkUnion(t, impl.Net{}, full) || checkUnion(t, full, full) {
		t.Fatal("UnionNet of a net of 48 links")
	}
}

// linkCase is a net, the arguments of LinkNet, and the result, written out; an empty text stands for none.
type linkCase struct {
	net        string
	kind, i, j int64
	want       string
}

func TestLinksWrittenOut(t *testing.T) {
	one, two := "A, ~A; ax 0 1; 0 1", "A, ~A, B, ~B; ax 0 1, ax 2 3; 3 0 2 1"
	same := "A, ~A, A, ~A; ax 0 1, ax 2 3; 0 1 2 3"
	for _, c := range []linkCase{
		{one, par, 0, 1, "A, ~A, (A|~A); ax 0 1, par 0 1 2; 2"}, {one, par, 1, 0, "A, ~A, (~A|A); ax 0 1, par 1 0 2; 2"},
		{one, tensor, 0, 1, "A, ~A, (A*~A); ax 0 1, tensor 0 1 2; 2"}, {one, tensor, 1, 0, "A, ~A, (~A*A); ax 0 1, tensor 1 0 2; 2"},
		{one, cut, 0, 1, "A, ~A; ax 0 1, cut 0 1; "}, {one, cut, 1, 0, "A, ~A; ax 0 1, cut 1 0; "},
		{"A, ~A; ax 0 1; 1 0", par, 0, 1, "A, ~A, (~A|A); ax 0 1, par 1 0 2; 2"}, {"A, ~A; ax 1 0; 1 0", cut, 0, 1, "A, ~A; ax 1 0, cut 1 0; "},
		{two, tensor, 1, 2, "A, ~A, B, ~B, (A*B); ax 0 1, ax 2 3, tensor 0 2 4; 3 1 4"}, {two, tensor, 2, 1, "A, ~A, B, ~B, (B*A); ax 0 1, ax 2 3, tensor 2 0 4; 3 1 4"},
		{two, par, 0, 3, "A, ~A, B, ~B, (~B|~A); ax 0 1, ax 2 3, par 3 1 4; 0 2 4"}, {two, par, 3, 0, "A, ~A, B, ~B, (~A|~B); ax 0 1, ax 2 3, par 1 3 4; 0 2 4"},
		{two, cut, 0, 2, "A, ~A, B, ~B; ax 0 1, ax 2 3, cut 3 2; 0 1"}, {two, cut, 2, 0, "A, ~A, B, ~B; ax 0 1, ax 2 3, cut 2 3; 0 1"}, {two, cut, 0, 1, ""}, {two, cut, 0, 3, ""},
		{same, cut, 1, 2, "A, ~A, A, ~A; ax 0 1, ax 2 3, cut 1 2; 0 3"}, {same, cut, 0, 3, "A, ~A, A, ~A; ax 0 1, ax 2 3, cut 0 3; 1 2"}, {same, cut, 0, 2, ""}, {same, cut, 1, 3, ""},
		{"(A*B), (~A|~B); ax 0 1; 0 1", cut, 0, 1, "(A*B), (~A|~B); ax 0 1, cut 0 1; "}, {"(A*B), (~A|~B); ax 0 1; 0 1", tensor, 1, 0, "(A*B), (~A|~B), ((~A|~B)*(A*B)); ax 0 1, tensor 1 0 2; 2"},
		{one, ax, 0, 1, ""}, {one, 0, 0, 1, ""}, {one, 5, 0, 1, ""}, {one, 11, 0, 1, ""}, {one, 12, 0, 1, ""}, {one, -1, 0, 1, ""}, {one, par, 0, 0, ""}, {one, par, 1, 1, ""}, {one, tensor, 0, 0, ""}, {one, cut, 0, 0, ""},
		{one, par, 0, 2, ""}, {one, par, 2, 0, ""}, {one, par, -1, 1, ""}, {one, par, 1, -1, ""}, {one, cut, 0, 2, ""}, {one, cut, -1, 0, ""}, {"; ; ", par, 0, 1, ""}, {"; ; ", cut, 0, 0, ""},
		{"A, ~A, (A|~A); ax 0 1, par 0 1 2; 2", par, 0, 1, ""}, {"A, ~A, (A|~A); ax 0 1, par 0 1 2; 2", tensor, 0, 2, ""}, {"A, ~A; ax 0 1, cut 0 1; ", cut, 0, 1, ""},
	} {
		got, ok := impl.LinkNet(netOf(c.net), c.kind, c.i, c.j)
		want := impl.Net{}
		if c.want != "" {
			want = netOf(c.want)
		}
		if ok != (c.want != "") || !sameNet(got, want) {
			t.Fatalf("LinkNet(%q, %d, %d, %d) = %v with%s", c.net, c.kind, c.i, c.j, ok, describeNet(got))
		}
		checkLinked(t, netOf(c.net), c.kind, c.i, c.j)
	}
}

// All pairs of positions, with every kind: a tensor or par leaves one conclusion less, a cut two.
func TestLinkedNets(t *testing.T) {
	found := map[int64]int{}
	for n, net := range smallNets(24) {
		last := int64(len(net.Concl))
		for i := int64(-1); i <= last; i++ {
			for j := int64(-1); j <= last; j++ {
				kinds := []int64{cut, tensor, par}
				if last > 6 {
					kinds = []int64{cut, kinds[1+(n+int(i)+int(j)+2)%2]}
				}
				for _, kind := range kinds {
					if checkLinked(t, net, kind, i, j) {
						found[kind]++
						checkCountsOfLinked(t, net, kind, i, j)
					}
				}
			}
		}
	}
	if found[cut] < 200 || found[tensor] < 1000 || found[par] < 1000 {
		t.Fatal("too few links", found)
	}
}

// checkCountsOfLinked compares the numbers of wires, links and conclusions before and after.
func checkCountsOfLinked(t *testing.T, n impl.Net, kind, i, j int64) {
	t.Helper()
	got, _ := impl.LinkNet(n, kind, i, j)
	less, more := 1, 1
	if kind == cut {
		less, more = 2, 0
	}
	if len(got.Concl) != len(n.Concl)-less || len(got.Wires) != len(n.Wires)+more || len(got.Links) != len(n.Links)+1 {
		t.Fatalf("LinkNet of kind %d of%s\nhas%s", kind, describeNet(n), describeNet(got))
	}
}

// Links of every kind follow each other until no conclusions are left to join.
func TestLinksOneAfterTheOther(t *testing.T) {
	last, cuts := map[int]int{}, 0
	seed := uint64(85)
	for _, n := range someNets() {
		for tries := 0; tries < 12 && len(n.Concl) > 1; tries++ {
			kind := allKinds[1+choose(&seed, 3)]
			i, j := int64(choose(&seed, uint64(len(n.Concl)))), int64(choose(&seed, uint64(len(n.Concl))))
			checkLinked(t, n, kind, i, j)
			if out, ok := impl.LinkNet(n, kind, i, j); ok {
				if n = out; kind == cut {
					cuts++
				}
			}
		}
		last[len(n.Concl)]++
	}
	if last[0] < 5 || last[1] < 30 || cuts < 50 {
		t.Fatal("too few links", last, cuts)
	}
}

func TestLinksOfOtherKinds(t *testing.T) {
	for _, n := range smallNets(8) {
		for _, kind := range append(oddKinds, ax) {
			for i := range int64(2) {
				if got, ok := impl.LinkNet(n, kind, i, 1-i); ok || !sameNet(got, impl.Net{}) {
					t.Fatalf("LinkNet of kind %d = %v with%s", kind, ok, describeNet(got))
				}
			}
		}
		for _, kind := range []int64{cut, tensor, par} {
			for _, at := range oddNumbers {
				if checkLinked(t, n, kind, at, 0) || checkLinked(t, n, kind, 0, at) || checkLinked(t, n, kind, at, at) || checkLinked(t, n, kind, 1, at) {
					t.Fatalf("LinkNet at %d has a result for%s", at, describeNet(n))
				}
			}
		}
	}
}

// The net with the link may have exactly 48 wires and 48 links.
func TestLimitsOfLinks(t *testing.T) {
	reached := 0
	full := axioms(slices.Repeat([]tree{leaf(1)}, 24)...)
	if checkLinked(t, full, par, 0, 1) || checkLinked(t, full, tensor, 5, 2) {
		t.Fatal("LinkNet has a net of 49 wires")
	}
	// The formula of a link has three symbols, then seven, then fifteen.
	for count := 1; count <= 23; count++ {
		n := axioms(slices.Repeat([]tree{leaf(1)}, count)...)
		for wires := 2*count + 1; len(n.Concl) > 1; wires++ {
			fits := len(n.Wires[n.Concl[0]])+len(n.Wires[n.Concl[1]])+1 <= 24
			kind := []int64{tensor, par}[wires%2]
			if ok := checkLinked(t, n, kind, 0, 1); ok != (wires <= 48 && fits) {
				t.Fatal("LinkNet", count, wires, ok)
			} else if !ok {
				break
			}
			n, _ = impl.LinkNet(n, kind, 0, 1)
		}
		if len(n.Wires) == 48 {
			reached++
		}
	}
	if reached < 8 {
		t.Fatal("too few nets of 48 wires", reached)
	}
	for links := 25; links <= 48; links++ {
		if !checkLinked(t, full, cut, 0, 1) {
			t.Fatal("LinkNet has no net of 48 links", links)
		}
		full, _ = impl.LinkNet(full, cut, 0, 1)
	}
	if len(full.Links) != 48 || len(full.Concl) > 0 || checkLinked(t, full, cut, 0, 1) {
		t.Fatal("LinkNet has a net of 49 links")
	}
}

// The formula of a link may have exactly 24 symbols; a cut adds no formula.
func TestLimitOfFormulasOfLinks(t *testing.T) {
	seed := uint64(86)
	found := map[bool]int{}
	for first := 1; first <= 23; first += 2 {
		for second := 1; second <= 23; second += 2 {
			n := axioms(multTree(first, &seed), multTree(second, &seed))
			for _, kind := range []int64{tensor, par} {
				for _, positions := range [][2]int64{{0, 2}, {2, 0}, {1, 3}, {3, 0}} {
					ok := checkLinked(t, n, kind, positions[0], positions[1])
					if found[ok]++; ok != (first+second+1 <= 24) {
						t.Fatal("LinkNet of long formulas", kind, first, second, ok)
					}
				}
			}
			if !checkLinked(t, n, cut, 0, 1) || !checkLinked(t, n, cut, 3, 2) {
				t.Fatal("LinkNet has no cut of long formulas", first, second)
			}
		}
	}
	if found[true] < 100 || found[false] < 100 {
		t.Fatal("too few links", found)
	}
}
