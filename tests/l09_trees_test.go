package tests

import (
	"regexp"
	"slices"
	"strconv"
	"strings"
	"testing"

	"loop.example/g00872/impl"
)

// treeCase is a net with the trees of its wires, separated by spaces, its outline and its counts, written out.
type treeCase struct {
	net, trees, outline string
	counts              []int64
}

func TestTreesWrittenOut(t *testing.T) {
	for _, c := range []treeCase{
		{"; ; ", "", "", []int64{0, 0, 0, 0}},
		{"A, ~A; ax 0 1; 0 1", "a0 b0", "concl a0\nconcl b0\n", []int64{1, 0, 0, 0}},
		{"A, ~A; ax 0 1; 1 0", "a0 b0", "concl b0\nconcl a0\n", []int64{1, 0, 0, 0}},
		{"A, ~A; ax 1 0; 0 1", "b0 a0", "concl b0\nconcl a0\n", []int64{1, 0, 0, 0}},
		{"(A*B), (~A|~B); ax 0 1; 0 1", "a0 b0", "concl a0\nconcl b0\n", []int64{1, 0, 0, 0}},
		{"A, ~A, (A|~A); ax 0 1, par 0 1 2; 2", "a0 b0 (a0|b0)", "concl (a0|b0)\n", []int64{1, 0, 0, 1}},
		{"A, ~A, (~A|A); ax 0 1, par 1 0 2; 2", "a0 b0 (b0|a0)", "concl (b0|a0)\n", []int64{1, 0, 0, 1}},
		{"A, ~A, (A*~A); tensor 0 1 2, ax 0 1; 2", "a1 b1 (a1*b1)", "concl (a1*b1)\n", []int64{1, 0, 1, 0}},
		{"A, ~A; ax 0 1, cut 0 1; ", "a0 b0", "cut a0 b0\n", []int64{1, 1, 0, 0}},
		{"A, ~A; cut 1 0, ax 0 1; ", "a1 b1", "cut b1 a1\n", []int64{1, 1, 0, 0}},
		{"A, ~A, A, ~A; ax 0 1, ax 2 3, cut 1 2; 0 3", "a0 b0 a1 b1", "concl a0\nconcl b1\ncut b0 a1\n", []int64{2, 1, 0, 0}},
		{"A, ~A, A, ~A; cut 3 2, ax 2 1, ax 0 3, cut 0 1; ", "a2 b1 a1 b2", "cut b2 a1\ncut a2 b1\n", []int64{2, 2, 0, 0}},
		{"A, ~A, B, ~B, (A*B), (~A|~B); ax 0 1, ax 2 3, tensor 0 2 4, par 1 3 5; 5 4", "a0 b0 a1 b1 (a0*a1) (b0|b1)", "concl (b0|b1)\nconcl (a0*a1)\n", []int64{2, 0, 1, 1}},
		{"A, ~A, B, ~B, (A*B), (~A|~B); ax 0 1, ax 2 3, tensor 0 2 4, par 1 3 5, cut 5 4; ", "a0 b0 a1 b1 (a0*a1) (b0|b1)", "cut (b0|b1) (a0*a1)\n", []int64{2, 1, 1, 1}},
		{"((A|~A)|B), (A|~A), A, ~A, B, ~B; par 1 4 0, par 2 3 1, ax 2 3, ax 4 5; 5 0", "((a2|b2)|a3) (a2|b2) a2 b2 a3 b3", "concl b3\nconcl ((a2|b2)|a3)\n", []int64{2, 0, 0, 2}},
		{"A, ~A, (A|~A), (~A*A), A, ~A; ax 0 1, par 0 1 2, ax 4 5, tensor 5 4 3, cut 2 3; ", "a0 b0 (a0|b0) (b2*a2) a2 b2", "cut (a0|b0) (b2*a2)\n", []int64{2, 1, 1, 1}},
		{"B, ~B, A, ~A, C, ~C, A, ~A, (B*C); ax 0 1, cut 7 2, ax 2 3, ax 4 5, cut 3 6, ax 6 7, tensor 0 4 8; 5 8 1", "a0 b0 a2 b2 a3 b3 a5 b5 (a0*a3)", "concl b3\nconcl (a0*a3)\nconcl b0\ncut b5 a2\ncut b2 a5\n", []int64{4, 2, 1, 0}},
	} {
		n := netOf(c.net)
		for wire, want := range strings.Fields(c.trees) {
			if got := impl.TreeText(n, int64(wire)); got != want {
				t.Fatalf("TreeText of the wire %d = %q, want %q of %q", wire, got, want, c.net)
			}
		}
		if got := impl.NetOutline(n); got != c.outline {
			t.Fatalf("NetOutline = %q, want %q of %q", got, c.outline, c.net)
		}
		wantList(t, "KindCounts of "+c.net, impl.KindCounts(n), c.counts)
		if !checkNetTexts(t, n) {
			t.Fatalf("%q is not valid", c.net)
		}
	}
}

// The trees of many nets are as expected, and all kinds of lines occur in their outlines.
func TestTreesOfSomeNets(t *testing.T) {
	sizes, cuts, conclusions := map[int]int{}, 0, 0
	for _, n := range someNets() {
		checkTrees(t, n)
		outline := impl.NetOutline(n)
		if strings.Count(outline, "cut ") > 1 && strings.Count(outline, "concl ") > 1 {
			cuts++
		}
		conclusions += strings.Count(outline, "concl ")
		for w := range n.Wires {
			sizes[strings.Count(impl.TreeText(n, int64(w)), "(")]++
		}
	}
	if sizes[0] < 2000 || sizes[1] < 300 || sizes[2] < 100 || sizes[3] < 50 || sizes[5] < 1 || cuts < 30 || conclusions < 1000 {
		t.Fatal("too few trees", sizes, cuts, conclusions)
	}
}

var leafPattern = regexp.MustCompile(`[ab][0-9]+`)

// A tree becomes the text of the formula of its wire if each leaf is replaced by the formula of that output; no leaf occurs twice in an outline.
func TestLeavesOfTrees(t *testing.T) {
	for _, n := range someNets() {
		formOf := func(leaf string) string {
			k, _ := strconv.Atoi(leaf[1:])
			wire := n.Links[k].A
			if leaf[0] == 'b' {
				wire = n.Links[k].B
			}
			return treeOf(n.Wires[wire]).text()
		}
		for w, f := range n.Wires {
			if got := leafPattern.ReplaceAllStringFunc(impl.TreeText(n, int64(w)), formOf); got != treeOf(f).text() {
				t.Fatalf("TreeText(%d) = %q of%s", w, impl.TreeText(n, int64(w)), describeNet(n))
			}
		}
		var want []string
		for _, k := range wantLinksOf(n, ax) {
			want = append(want, "a"+strconv.FormatInt(k, 10), "b"+strconv.FormatInt(k, 10))
		}
		got := leafPattern.FindAllString(impl.NetOutline(n), -1)
		slices.Sort(got)
		slices.Sort(want)
		if !slices.Equal(got, want) {
			t.Fatalf("the leaves of NetOutline are %v, want %v of%s", got, want, describeNet(n))
		}
	}
}

// Other numbers of the wires change neither trees nor outlines; other numbers of the links change only those of the leaves.
func TestTreesOfRenumberedNets(t *testing.T) {
	seed := uint64(91)
	for _, n := range someNets() {
		wires, links := somePlaces(len(n.Wires), &seed), somePlaces(len(n.Links), &seed)
		moved, _ := impl.RenumberNet(n, wires, inOrder(len(n.Links)))
		if impl.NetOutline(moved) != impl.NetOutline(n) {
			t.Fatalf("NetOutline = %q, want %q of%s", impl.NetOutline(moved), impl.NetOutline(n), describeNet(moved))
		}
		both, _ := impl.RenumberNet(n, wires, links)
		newLeaf := func(leaf string) string {
			k, _ := strconv.Atoi(leaf[1:])
			return leaf[:1] + strconv.FormatInt(links[k], 10)
		}
		for old, wire := range wires {
			tree := impl.TreeText(n, int64(old))
			if impl.TreeText(moved, wire) != tree || impl.TreeText(both, wire) != leafPattern.ReplaceAllStringFunc(tree, newLeaf) {
				t.Fatalf("TreeText = %q and %q instead of %q, in%s", impl.TreeText(moved, wire), impl.TreeText(both, wire), tree, describeNet(both))
			}
		}
		wantList(t, "KindCounts", impl.KindCounts(both), wantKindCounts(n))
	}
}

// The greatest tree, and the deepest one.
func TestGreatestTrees(t *testing.T) {
	for _, kind := range []int64{tensor, par} {
		row := axioms(slices.Repeat([]tree{leaf(1)}, 12)...)
		for range 11 {
			// The last conclusion is the tree so far.
			row, _ = wantLinked(row, kind, 0, int64(len(row.Concl))-1)
		}
		last := int64(len(row.Wires)) - 1
		if got := impl.TreeText(row, last); strings.Count(got, "(") != 11 || len(row.Wires[last]) != 23 || strings.HasPrefix(got, "((") {
			t.Fatalf("TreeText = %q", got)
		}
		checkNetTexts(t, row)
		deep := axioms(slices.Repeat([]tree{leaf(1)}, 12)...)
		deep, _ = wantLinked(deep, kind, 0, 2)
		for range 10 {
			deep, _ = wantLinked(deep, kind, int64(len(deep.Concl))-1, 1)
		}
		if got := impl.TreeText(deep, int64(len(deep.Wires))-1); !strings.HasPrefix(got, strings.Repeat("(", 11)+"a0") {
			t.Fatalf("TreeText = %q", got)
		}
		checkNetTexts(t, deep)
	}
	full := axioms(slices.Repeat([]tree{leaf(-2)}, 24)...)
	if got := impl.TreeText(full, 47); got != "b23" {
		t.Fatalf("TreeText = %q", got)
	}
}

// Wires that a net does not have.
func TestTreesOfNoWires(t *testing.T) {
	for _, n := range someNets() {
		for _, wire := range append(oddNumbers, int64(len(n.Wires)), int64(len(n.Wires))+1) {
			if wire >= 0 && wire < int64(len(n.Wires)) {
				continue
			}
			if got := impl.TreeText(n, wire); got != "" {
				t.Fatalf("TreeText(%d) = %q of%s", wire, got, describeNet(n))
			}
		}
	}
}

// Nets that are not valid have no text, no trees and no counts.
func TestNoTrees(t *testing.T) {
	for _, n := range brokenNets() {
		if checkNetTexts(t, n) || impl.NetText(n) != "" || impl.NetOutline(n) != "" || len(impl.KindCounts(n)) != 0 || impl.TreeText(n, 0) != "" {
			t.Fatalf("texts of what is not valid:%s", describeNet(n))
		}
	}
}
