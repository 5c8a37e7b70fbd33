package tests

import (
	"math"
	"slices"
	"testing"

	"loop.example/g00872/impl"
)

// matesCase is a sequent with mates and the net of both, written out; an empty net stands for none, although the lists are mates.
type matesCase struct {
	seq   string
	mates []int64
	net   string
}

func TestLinkedNetsWrittenOut(t *testing.T) {
	for _, c := range []matesCase{
		{"", nil, "; ; "}, {"A, ~A", []int64{1, 0}, "A, ~A; ax 0 1; 0 1"}, {"~A, A", []int64{1, 0}, "~A, A; ax 0 1; 0 1"}, {"(A|~A)", []int64{1, 0}, "(A|~A), A, ~A; ax 1 2, par 1 2 0; 0"},
		{"(A*~A)", []int64{1, 0}, "(A*~A), A, ~A; ax 1 2, tensor 1 2 0; 0"}, {"(~H|H)", []int64{1, 0}, "(~H|H), ~H, H; ax 1 2, par 1 2 0; 0"},
		{"A, B, ~A, ~B", []int64{2, 3, 0, 1}, "A, B, ~A, ~B; ax 0 2, ax 1 3; 0 1 2 3"}, {"A, A, ~A, ~A", []int64{2, 3, 0, 1}, "A, A, ~A, ~A; ax 0 2, ax 1 3; 0 1 2 3"},
		{"A, A, ~A, ~A", []int64{3, 2, 1, 0}, "A, A, ~A, ~A; ax 0 3, ax 1 2; 0 1 2 3"}, {"A, ~A, A, ~A", []int64{1, 0, 3, 2}, "A, ~A, A, ~A; ax 0 1, ax 2 3; 0 1 2 3"},
		{"A, ~A, A, ~A", []int64{3, 2, 1, 0}, "A, ~A, A, ~A; ax 0 3, ax 1 2; 0 1 2 3"}, {"~A, A, ~B, B, A, ~A", []int64{4, 5, 3, 2, 0, 1}, "~A, A, ~B, B, A, ~A; ax 0 4, ax 1 5, ax 2 3; 0 1 2 3 4 5"},
		{"(A*B), (~A|~B)", []int64{2, 3, 0, 1}, "(A*B), A, B, (~A|~B), ~A, ~B; ax 1 4, ax 2 5, tensor 1 2 0, par 4 5 3; 0 3"},
		{"(A*A), (~A|~A)", []int64{3, 2, 1, 0}, "(A*A), A, A, (~A|~A), ~A, ~A; ax 1 5, ax 2 4, tensor 1 2 0, par 4 5 3; 0 3"},
		{"((A|B)*~A), ~B", []int64{2, 3, 0, 1}, "((A|B)*~A), (A|B), A, B, ~A, ~B; ax 2 4, ax 3 5, tensor 1 4 0, par 2 3 1; 0 5"},
		{"B, (~A|(A*~B))", []int64{3, 2, 1, 0}, "B, (~A|(A*~B)), ~A, (A*~B), A, ~B; ax 0 5, ax 2 4, par 2 3 1, tensor 4 5 3; 0 1"},
		{"((A|B)|(~B|~A))", []int64{3, 2, 1, 0}, "((A|B)|(~B|~A)), (A|B), A, B, (~B|~A), ~B, ~A; ax 2 6, ax 3 5, par 1 4 0, par 2 3 1, par 5 6 4; 0"},
		{"(((A*B)|C)*~A), ~C, ~B", []int64{3, 5, 4, 0, 2, 1}, "(((A*B)|C)*~A), ((A*B)|C), (A*B), A, B, C, ~A, ~C, ~B; ax 3 6, ax 4 8, ax 5 7, tensor 1 6 0, par 2 5 1, tensor 3 4 2; 0 7 8"},
	} {
		q, n := mustRead(t, c.seq), netOf(c.net)
		got, ok := impl.LinkedNet(q, c.mates)
		if !ok || !sameNet(got, n) || !impl.IsMates(q, c.mates) {
			t.Fatalf("LinkedNet of %q and %v = %v with%s\ninstead of%s", c.seq, c.mates, ok, describeNet(got), describeNet(n))
		}
		if back, backOk := impl.MatesOf(n); !backOk || !slices.Equal(back, c.mates) {
			t.Fatalf("MatesOf = %v, %v, want %v of%s", back, backOk, c.mates, describeNet(n))
		}
		if !checkMates(t, q, c.mates) {
			t.Fatalf("the tests do not know the net of %q and %v", c.seq, c.mates)
		}
	}
}

// Lists that are no mates of a sequent, for each reason.
func TestNoMatesWrittenOut(t *testing.T) {
	for _, c := range []matesCase{
		// too few or too many
		{"", []int64{0}, ""}, {"", []int64{1, 0}, ""}, {"A, ~A", nil, ""}, {"A, ~A", []int64{1}, ""}, {"A, ~A", []int64{1, 0, 2}, ""}, {"A, ~A", []int64{1, 0, 0}, ""}, {"A, ~A", []int64{1, 0, 3, 2}, ""}, {"(A|~A)", nil, ""},
		{"A, ~A, B, ~B", []int64{1, 0}, ""}, {"A, ~A, B, ~B", []int64{1, 0, 3}, ""}, {"A", nil, ""}, {"A", []int64{0}, ""}, {"A", []int64{1}, ""}, {"A, ~A, A", []int64{1, 0, 2}, ""}, {"A, ~A, A", []int64{1, 2, 1}, ""},
		// their own mates
		{"A, ~A", []int64{0, 1}, ""}, {"A, ~A", []int64{0, 0}, ""}, {"A, ~A", []int64{1, 1}, ""}, {"A, ~A, A, ~A", []int64{1, 0, 2, 3}, ""}, {"A, ~A, B", []int64{1, 0, 2}, ""},
		// not each other's
		{"A, ~A, A, ~A", []int64{1, 2, 3, 0}, ""}, {"A, ~A, A, ~A", []int64{1, 0, 1, 0}, ""}, {"A, ~A, A, ~A", []int64{3, 0, 1, 2}, ""}, {"A, A, ~A, ~A", []int64{2, 2, 0, 1}, ""}, {"A, A, ~A, ~A", []int64{2, 3, 1, 0}, ""},
		{"A, A, ~A", []int64{2, 2, 0}, ""}, {"A, A, ~A", []int64{2, 2, 1}, ""}, {"A, ~A, A, ~A", []int64{1, 0, 3, 0}, ""},
		// out of range
		{"A, ~A", []int64{1, -1}, ""}, {"A, ~A", []int64{-1, 0}, ""}, {"A, ~A", []int64{2, 0}, ""}, {"A, ~A", []int64{1, 2}, ""}, {"A, ~A", []int64{-1, -1}, ""}, {"A, ~A", []int64{math.MaxInt64, 0}, ""}, {"A, ~A", []int64{1, math.MinInt64}, ""},
		{"A, ~A", []int64{1<<32 + 1, 1 << 32}, ""}, {"A, ~A", []int64{257, 256}, ""}, {"A, ~A", []int64{-1, -2}, ""},
		// symbols that are not dual
		{"A, A", []int64{1, 0}, ""}, {"A, B", []int64{1, 0}, ""}, {"A, ~B", []int64{1, 0}, ""}, {"~A, ~A", []int64{1, 0}, ""}, {"(A|A)", []int64{1, 0}, ""}, {"A, B, ~A, ~B", []int64{3, 2, 1, 0}, ""}, {"A, B, ~A, ~B", []int64{1, 0, 3, 2}, ""},
		{"H, ~G", []int64{1, 0}, ""}, {"A, ~A, B, ~A", []int64{1, 0, 3, 2}, ""}, {"(A*B), (~B|~A)", []int64{2, 3, 0, 1}, ""},
		// formulas of other fragments
		{"1", nil, ""}, {"1, _", nil, ""}, {"1, _", []int64{1, 0}, ""}, {"A, ~A, 1", []int64{1, 0}, ""}, {"_, A, ~A", []int64{1, 0}, ""}, {"(A*1), ~A", []int64{1, 0}, ""}, {"(A|(~A*_))", []int64{1, 0}, ""}, {"(A+~A)", []int64{1, 0}, ""},
		{"(A&~A)", []int64{1, 0}, ""}, {"!A, ~A", []int64{1, 0}, ""}, {"A, ?~A", []int64{1, 0}, ""}, {"(A|!~A)", []int64{1, 0}, ""}, {"A, ~A, (B&~B)", []int64{1, 0, 3, 2}, ""}, {"!1", nil, ""}, {"A, ~A, !1", []int64{1, 0}, ""},
	} {
		q := mustRead(t, c.seq)
		if n, ok := impl.LinkedNet(q, c.mates); ok || !sameNet(n, impl.Net{}) || impl.IsMates(q, c.mates) || checkMates(t, q, c.mates) {
			t.Fatalf("LinkedNet of %q and %v = %v with%s", c.seq, c.mates, ok, describeNet(n))
		}
	}
}

// Sequents with mates, short and long, and lists that differ from the mates in one element or two.
func TestMatesOfSomeSequents(t *testing.T) {
	sizes, forms, found, wrong := map[int]int{}, map[int]int{}, 0, 0
	for n, m := range someMated() {
		if !checkMates(t, m.q, m.mates) {
			t.Fatalf("no net of %s", describeMated(m))
		}
		found++
		sizes[len(m.mates)]++
		forms[len(m.q.Forms)]++
		if n%8 > 0 {
			continue
		}
		for at := range m.mates {
			for _, other := range append(inOrder(len(m.mates)+1), oddNumbers...) {
				changed := slices.Clone(m.mates)
				changed[at] = other
				if impl.IsMates(m.q, changed) != (other == m.mates[at]) || wantIsMates(m.q, changed) != (other == m.mates[at]) {
					t.Fatalf("IsMates of %s, changed to %v", describeMated(m), changed)
				}
				if other >= 0 && other < int64(len(m.mates)) {
					changed[other] = int64(at)
					if got := impl.IsMates(m.q, changed); got != wantIsMates(m.q, changed) {
						t.Fatalf("IsMates = %v of %s, changed to %v", got, describeMated(m), changed)
					}
					wrong++
				}
			}
		}
	}
	if found < 300 || wrong < 2000 || sizes[0] < 5 || sizes[2] < 20 || sizes[10] < 10 || sizes[20] < 5 || forms[0] < 5 || forms[1] < 20 || forms[5] < 20 || forms[7] < 5 {
		t.Fatal("too few sequents", found, wrong, sizes, forms)
	}
}

// All mates of some sequents, and how many there are: with every one, there is another net.
func TestAllMates(t *testing.T) {
	for text, want := range map[string]int{
		"": 1, "A, ~A": 1, "A, ~B": 0, "A": 0, "A, A, ~A, ~A": 2, "((A*A)|(~A|~A))": 2, "(A*B), (~A|~B)": 1, "A, ~A, A, ~A, (A|~A)": 6, "(A|A), (A|A), (~A|~A), (~A|~A)": 24, "((A|B)*(A|B)), (~A*~B), ~A, ~B": 4,
		"A, A, A, A, A, ~A, ~A, ~A, ~A, ~A": 120, "(A*~A), (B*~B), (A|~B), (B|~A)": 4, "A, A, ~A": 0, "A, B, ~A, ~A": 0,
	} {
		q := mustRead(t, text)
		var lists [][]int64
		nets := map[string]bool{}
		eachMates(leavesOfSeq(q), func(mates []int64) {
			if !checkMates(t, q, mates) {
				t.Fatalf("LinkedNet of %q and %v", text, mates)
			}
			lists = append(lists, mates)
			n, _ := impl.LinkedNet(q, mates)
			nets[impl.NetText(n)] = true
		})
		if len(lists) != want || len(nets) != want {
			t.Fatalf("%d mates and %d nets of %q", len(lists), len(nets), text)
		}
		// No other permutation is accepted.
		if count := len(leavesOfSeq(q)); count <= 6 {
			accepted := 0
			eachPlaces(count, func(places []int64) {
				if checkMates(t, q, slices.Clone(places)) {
					accepted++
				}
			})
			if accepted != want && count > 0 {
				t.Fatalf("%d permutations are mates of %q", accepted, text)
			}
		}
	}
}

// Every list of numbers from -1 on, as long as the leaves, shorter or longer.
func TestAllListsAsMates(t *testing.T) {
	found := 0
	for _, text := range []string{"", "A", "A, ~A", "A, A", "(A|~A)", "A, B, ~A", "A, ~A, A, ~A", "(A*B), (~A|~B)", "(A|A), ~A, ~A", "1, A, ~A", "(A+~A)"} {
		q := mustRead(t, text)
		last := int64(len(leavesOfSeq(q)))
		lists := [][]int64{nil}
		for length := int64(0); length <= last+1 && length <= 4; length++ {
			var longer [][]int64
			for _, list := range lists {
				if impl.IsMates(q, list) != wantIsMates(q, list) {
					t.Fatalf("IsMates = %v of %q and %v", impl.IsMates(q, list), text, list)
				}
				if wantIsMates(q, list) {
					found++
				}
				for number := int64(-1); number <= last; number++ {
					longer = append(longer, append(slices.Clone(list), number))
				}
			}
			lists = longer
		}
	}
	if found != 8 {
		t.Fatal("lists that are mates", found)
	}
}

// A sequent of 48 symbols has a net, and one of more has none, although it has mates.
func TestLimitOfLinkedNets(t *testing.T) {
	seed, found := uint64(105), map[int]int{}
	for _, sizes := range [][]int{
		// 46, 47 and 48 symbols
		{23, 23}, {1, 1, 1, 1, 19, 23}, {11, 11, 11, 13, 1}, {5, 5, 5, 5, 5, 5, 5, 5, 7}, {1, 23, 23, 1}, {23, 1, 1, 23}, {11, 13, 11, 13}, {5, 5, 5, 5, 7, 7, 7, 7}, {1, 1, 1, 1, 1, 1, 19, 23},
		// 49, 50 and more
		{23, 23, 3}, {15, 15, 19}, {7, 7, 7, 7, 7, 7, 7}, {1, 1, 1, 1, 1, 21, 23}, {23, 23, 1, 1, 1, 1}, {5, 5, 5, 5, 5, 5, 5, 5, 5, 5}, {15, 15, 15, 7}, {1, 1, 1, 1, 1, 1, 1, 1, 23, 23}, {15, 15, 15, 15}, {23, 23, 13, 1},
	} {
		total := 0
		for _, size := range sizes {
			total += size
		}
		for range 4 {
			q, mates, ok := matedSeq(sizes, 2, &seed)
			if !ok {
				t.Fatal("the leaves are odd in number", sizes)
			}
			if !impl.ValidSeq(q) || !impl.IsMates(q, mates) || checkMates(t, q, mates) != (total <= 48) {
				t.Fatalf("LinkedNet of %d symbols, %s", total, describeMated(mated{q, mates}))
			}
			if n, ok := impl.LinkedNet(q, mates); ok && (len(n.Wires) != total || len(n.Concl) != len(sizes)) || !ok && !sameNet(n, impl.Net{}) {
				t.Fatalf("LinkedNet of %d symbols has%s", total, describeNet(n))
			}
			found[total]++
		}
	}
	if found[46] < 8 || found[47] < 8 || found[48] < 20 || found[49] < 16 || found[50] < 8 || found[52] < 4 || found[60] < 8 {
		t.Fatal("too few sequents", found)
	}
}

// Sequents at the limits and beyond: ten and eleven formulas, 60 and more symbols, formulas of 23 and 25 symbols.
func TestMatesOfLongSequents(t *testing.T) {
	seed, found := uint64(106), map[bool]int{}
	for _, sizes := range [][]int{
		slices.Repeat([]int{1}, 10), slices.Repeat([]int{1}, 12), slices.Repeat([]int{3}, 9), slices.Repeat([]int{3}, 11), slices.Repeat([]int{5}, 10), {23, 23, 1, 13}, {15, 15, 15, 15}, {23, 23, 15}, {23, 23, 1, 1, 1, 13}, {23, 23, 23}, {25, 1}, {25, 25}, {25, 21},
		{23, 1, 1}, slices.Repeat([]int{1}, 60), slices.Repeat([]int{1}, 1000),
	} {
		for range 20 {
			q, mates, ok := matedSeq(sizes, 3, &seed)
			if !ok {
				t.Fatal("no mates", sizes)
			}
			valid := isSeq(q)
			if got := impl.IsMates(q, mates); got != valid || wantIsMates(q, mates) != valid {
				t.Fatalf("IsMates = %v of %v and %v", got, q.Forms, mates)
			}
			checkMates(t, q, mates)
			found[valid]++
		}
	}
	if found[true] < 100 || found[false] < 100 {
		t.Fatal("too few sequents", found)
	}
}

// Sequents that are not valid have no mates, not even if nothing is to be connected.
func TestMatesOfNoSequent(t *testing.T) {
	lists := [][]int64{nil, {}, {0}, {1, 0}, {1, 0, 3, 2}, inOrder(60)}
	brokenSeqs(func(q impl.Seq) {
		for _, mates := range lists {
			if n, ok := impl.LinkedNet(q, mates); ok || !sameNet(n, impl.Net{}) || impl.IsMates(q, mates) {
				t.Fatalf("LinkedNet of %v and %v = %v with%s", q.Forms, mates, ok, describeNet(n))
			}
		}
	})
	for _, bad := range invalidLists() {
		for _, forms := range [][][]int64{{bad}, {{1}, {-1}, bad}, {bad, {1}, {-1}}, {{1}, bad, {-1}}} {
			for _, mates := range lists {
				if impl.IsMates(impl.Seq{Forms: forms}, mates) {
					t.Fatalf("IsMates of %v and %v", forms, mates)
				}
			}
		}
	}
	for _, trees := range overLimits() {
		if q := seqOfTrees(trees); impl.IsMates(q, nil) || impl.IsMates(q, inOrder(len(leavesOfSeq(q)))) {
			t.Fatalf("IsMates of %v", q.Forms)
		}
	}
	for _, f := range someTrees() {
		// The formula and its dual have mates if it is of the fragments 0 and 1.
		q, count := seqOf(f.list(), f.dual().list()), len(f.leaves())
		mates := append(inOrder(2 * count)[count:], inOrder(count)...)
		if got := impl.IsMates(q, mates); got != (isPlain(f.list()) && isSeq(q)) {
			t.Fatalf("IsMates = %v of %s and its dual", got, f.text())
		}
	}
}

// Both functions return for great lists and extreme numbers.
func TestMatesOfGreatLists(t *testing.T) {
	const many = 1 << 18
	one := seqOf([]int64{1}, []int64{-1})
	for _, q := range []impl.Seq{
		one, {}, {Forms: make([][]int64, many)}, {Forms: slices.Repeat(one.Forms, many)}, seqOf(slices.Repeat([]int64{11}, many)), seqOf(bangs(many)), seqOf(slices.Repeat([]int64{1}, many), []int64{math.MinInt64}),
	} {
		for _, mates := range [][]int64{make([]int64, many), inOrder(many), slices.Repeat([]int64{1, 0}, many), {math.MinInt64, math.MaxInt64}, {math.MaxInt64, math.MaxInt64}, slices.Repeat([]int64{math.MinInt64}, 20)} {
			if n, ok := impl.LinkedNet(q, mates); ok || !sameNet(n, impl.Net{}) || impl.IsMates(q, mates) {
				t.Fatal("LinkedNet has a result for great lists")
			}
		}
	}
}
