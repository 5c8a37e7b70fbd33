package tests

import (
	"math"
	"slices"
	"testing"
)

// spare is the value that fills the capacity behind a guarded list.
const spare = int64(777)

// oddSymbols are numbers that are no symbols; some look like one when they are cut to 32 or 8 bits.
var oddSymbols = []int64{
	0, 9, 10, 19, 20, -9, -10, -11, -18,
	1<<32 + 1, 1<<32 + 11, 1<<8 + 1, 1<<8 + 17, -1<<32 - 1,
	math.MaxInt64, math.MinInt64, math.MinInt64 + 1, math.MaxInt32, math.MinInt32,
}

// oddIndices are indices that no formula has.
var oddIndices = []int64{-1, -2, 24, 25, 1 << 32, -1 << 32, math.MaxInt64, math.MinInt64}

// operatorSigns are the signs of the operators in texts.
var operatorSigns = map[int64]string{11: "*", 12: "|", 13: "1", 14: "_", 15: "+", 16: "&", 17: "!", 18: "?"}

// tree is a formula as the tests see it, so that expected values do not depend on the program.
type tree struct {
	symbol int64
	kids   []tree
}

func (t tree) list() []int64 {
	out := []int64{t.symbol}
	for _, kid := range t.kids {
		out = append(out, kid.list()...)
	}
	return out
}

func (t tree) dual() tree {
	pairs := map[int64]int64{11: 12, 12: 11, 13: 14, 14: 13, 15: 16, 16: 15, 17: 18, 18: 17}
	out := tree{symbol: -t.symbol}
	if d, ok := pairs[t.symbol]; ok {
		out.symbol = d
	}
	for _, kid := range t.kids {
		out.kids = append(out.kids, kid.dual())
	}
	return out
}

func (t tree) leaves() []int64 {
	var out []int64
	if t.symbol <= 8 {
		out = append(out, t.symbol)
	}
	for _, kid := range t.kids {
		out = append(out, kid.leaves()...)
	}
	return out
}

func (t tree) depth() int64 {
	depth := int64(0)
	for _, kid := range t.kids {
		depth = max(depth, kid.depth()+1)
	}
	return depth
}

func (t tree) fragment() int64 {
	bits := map[int64]int64{11: 1, 12: 1, 13: 2, 14: 2, 15: 4, 16: 4, 17: 8, 18: 8}
	sum := bits[t.symbol]
	for _, kid := range t.kids {
		sum |= kid.fragment()
	}
	return sum
}

// text is the text of the formula, in which no space and no other sign is superfluous.
func (t tree) text() string {
	switch {
	case len(t.kids) == 2:
		return "(" + t.kids[0].text() + operatorSigns[t.symbol] + t.kids[1].text() + ")"
	case len(t.kids) == 1:
		return operatorSigns[t.symbol] + t.kids[0].text()
	case t.symbol < 0:
		return "~" + string(rune('A'-1-t.symbol))
	case t.symbol <= 8:
		return string(rune('A' - 1 + t.symbol))
	}
	return operatorSigns[t.symbol]
}

// parts returns the formulas that occur in t, each as often as it occurs.
func (t tree) parts() []tree {
	out := []tree{t}
	for _, kid := range t.kids {
		out = append(out, kid.parts()...)
	}
	return out
}

func leaf(symbol int64) tree { return tree{symbol: symbol} }

func unary(op int64, a tree) tree { return tree{op, []tree{a}} }

func binary(op int64, a, b tree) tree { return tree{op, []tree{a, b}} }

// smallTrees returns every formula of at most three symbols.
func smallTrees() []tree {
	var one, two, three []tree
	for n := int64(1); n <= 8; n++ {
		one = append(one, leaf(n), leaf(-n))
	}
	one = append(one, leaf(13), leaf(14))
	for _, a := range one {
		two = append(two, unary(17, a), unary(18, a))
	}
	for _, a := range two {
		three = append(three, unary(17, a), unary(18, a))
	}
	for _, a := range one {
		for _, b := range one {
			for _, op := range []int64{11, 12, 15, 16} {
				three = append(three, binary(op, a, b))
			}
		}
	}
	return slices.Concat(one, two, three)
}

// grownTree returns a formula of exactly size symbols whose shape follows from seed.
func grownTree(size int, seed *uint64) tree {
	*seed = *seed*6364136223846793005 + 1442695040888963407
	r := int64(*seed >> 33)
	atoms := []int64{1, -1, 8, -8, 2, -3, 13, 14}
	switch {
	case size == 1:
		return leaf(atoms[r%8])
	case size == 2 || r%3 == 0:
		return unary(17+r/3%2, grownTree(size-1, seed))
	}
	left := 1 + int(r/3)%(size-2)
	ops := []int64{11, 12, 15, 16}
	a := grownTree(left, seed)
	return binary(ops[r/97%4], a, grownTree(size-1-left, seed))
}

// someTrees returns the small formulas and formulas of every size up to 24 symbols.
func someTrees() []tree {
	out := smallTrees()
	seed := uint64(1)
	for size := 1; size <= 24; size++ {
		for range 60 {
			out = append(out, grownTree(size, &seed))
		}
	}
	return out
}

// bangs returns a formula of count symbols: OpBang again and again, then the atom 1.
func bangs(count int) []int64 {
	return append(slices.Repeat([]int64{17}, count-1), 1)
}

// endOf finds the end of a formula by recursion, without the limit of symbols.
func endOf(list []int64, at int) int {
	if at >= len(list) {
		return -1
	}
	operands := 0
	switch s := list[at]; {
	case s >= -8 && s <= 8 && s != 0, s == 13, s == 14:
	case s == 17, s == 18:
		operands = 1
	case s == 11, s == 12, s == 15, s == 16:
		operands = 2
	default:
		return -1
	}
	end := at + 1
	for ; operands > 0 && end >= 0; operands-- {
		end = endOf(list, end)
	}
	return end
}

func isForm(list []int64) bool {
	return len(list) <= 24 && endOf(list, 0) == len(list)
}

// shortLists calls visit with every list of at most three numbers, symbols and others.
func shortLists(visit func([]int64)) {
	symbols := slices.Clone(oddSymbols)
	for n := int64(1); n <= 8; n++ {
		symbols = append(symbols, n, -n)
	}
	for op := int64(11); op <= 18; op++ {
		symbols = append(symbols, op)
	}
	visit(nil)
	visit([]int64{})
	for _, a := range symbols {
		visit([]int64{a})
		for _, b := range symbols {
			visit([]int64{a, b})
			for _, c := range symbols {
				visit([]int64{a, b, c})
			}
		}
	}
}

// invalidLists are lists that are no formulas: too short, with a rest, too long or with other numbers.
func invalidLists() [][]int64 {
	out := [][]int64{
		nil, {}, {11}, {11, 1}, {17}, {18, 17}, {11, 11, 1, 2}, {12, 1, 17},
		{1, 1}, {13, 14}, {11, 1, 2, 3}, {17, 1, 1}, {11, 1, 0}, {0, 1}, {1, 9},
		bangs(25), bangs(26), bangs(200),
		slices.Concat([]int64{12}, bangs(12), bangs(12)),
		slices.Repeat([]int64{11}, 24), append(bangs(23), 1), append(bangs(24), 1),
	}
	for _, odd := range oddSymbols {
		out = append(out, []int64{odd}, []int64{17, odd}, []int64{11, odd, 1}, []int64{11, 1, odd}, []int64{odd, 1, 1}, []int64{odd, 1})
	}
	return out
}

// guarded returns a copy of list with filled spare capacity behind it, and a function that reports whether anything changed.
func guarded(list []int64) ([]int64, func() bool) {
	whole := append(slices.Clone(list), slices.Repeat([]int64{spare}, 40)...)
	before := slices.Clone(whole)
	return whole[:len(list)], func() bool { return !slices.Equal(whole, before) }
}

// overwrite changes a list and the spare capacity behind it.
func overwrite(list []int64) {
	whole := list[:cap(list)]
	for i := range whole {
		whole[i] = -555
	}
}

// checkUnshared calls functions of one formula, and fails if one changes the formula, shares memory with it or keeps it.
func checkUnshared(t *testing.T, calls map[string]func([]int64) []int64) {
	t.Helper()
	lists := invalidLists()
	for _, tr := range someTrees() {
		lists = append(lists, tr.list())
	}
	for name, call := range calls {
		for _, list := range lists {
			f, changed := guarded(list)
			got := call(f)
			if changed() {
				t.Fatal(name, "changes its argument", list)
			}
			overwrite(got)
			if changed() {
				t.Fatal(name, "shares memory with its argument", list)
			}
			if !slices.Equal(call(f), call(slices.Clone(list))) {
				t.Fatal(name, "depends on the capacity or keeps a result", list)
			}
		}
	}
}

func wantList(t *testing.T, what string, got, want []int64) {
	t.Helper()
	if !slices.Equal(got, want) {
		t.Fatalf("%s: got %v, want %v", what, got, want)
	}
}
