package tests

import (
	"slices"

	"loop.example/g00872/impl"
)

// netTexts are valid nets, written out: without wires, with axioms only, with links in any order and direction, with and without conclusions.
var netTexts = []string{
	"; ; ", "A, ~A; ax 0 1; 0 1", "A, ~A; ax 0 1; 1 0", "A, ~A; ax 1 0; 0 1", "~H, H; ax 0 1; 0 1", "(A*B), (~A|~B); ax 0 1; 0 1", "(~A|~B), (A*B); ax 1 0; 1 0",
	"A, ~A, (A|~A); ax 0 1, par 0 1 2; 2", "A, ~A, (~A|A); ax 0 1, par 1 0 2; 2", "A, ~A, (A*~A); ax 0 1, tensor 0 1 2; 2", "(A|~A), A, ~A; par 1 2 0, ax 2 1; 0",
	"A, ~A; ax 0 1, cut 0 1; ", "A, ~A; cut 1 0, ax 0 1; ", "A, ~A, B, ~B; ax 0 1, ax 2 3; 0 1 2 3", "A, ~A, B, ~B; ax 0 1, ax 2 3; 3 1 0 2", "A, B, ~B, ~A; ax 0 3, ax 2 1; 1 0 3 2",
	"A, ~A, A, ~A; ax 0 1, ax 2 3, cut 1 2; 0 3", "A, ~A, A, ~A; ax 0 3, ax 2 1, cut 1 0; 3 2", "A, ~A, A, ~A; ax 0 1, ax 2 3, cut 0 1, cut 3 2; ", "A, ~A, A, ~A; ax 0 1, cut 1 2, ax 2 3, cut 3 0; ",
	"A, ~A, B, ~B, (A*B), (~A|~B); ax 0 1, ax 2 3, tensor 0 2 4, par 1 3 5; 4 5", "A, ~A, B, ~B, (A*B), (~A|~B); ax 0 1, ax 2 3, tensor 0 2 4, par 1 3 5, cut 4 5; ",
	"A, ~A, A, ~A, (A*A), (~A|~A); ax 0 1, ax 2 3, tensor 2 0 4, par 1 3 5; 5 4", "(A*A), (~A|~A), A, A, ~A, ~A; tensor 2 3 0, par 5 4 1, ax 4 2, ax 3 5; 1 0",
	"A, ~A, (A|~A), B, ~B, ((A|~A)*B); ax 0 1, par 0 1 2, ax 3 4, tensor 2 3 5; 4 5", "((A|~A)|B), (A|~A), A, ~A, B, ~B; par 1 4 0, par 2 3 1, ax 2 3, ax 4 5; 5 0",
	"A, ~A, (A|~A), (~A*A), A, ~A; ax 0 1, par 0 1 2, ax 4 5, tensor 5 4 3, cut 2 3; ", "(A*B), (~A|~B), ((A*B)|(~A|~B)); ax 0 1, par 0 1 2; 2",
}

// multTree returns a formula of an odd number of symbols with atoms, tensors and pars only, whose shape follows from seed.
func multTree(size int, seed *uint64) tree {
	if size == 1 {
		return leaf(int64(choose(seed, 8)+1) * []int64{1, -1}[choose(seed, 2)])
	}
	left := 1 + 2*choose(seed, uint64(size/2))
	a := multTree(left, seed)
	return binary([]int64{11, 12}[choose(seed, 2)], a, multTree(size-1-left, seed))
}

// axioms returns the net of axioms of the formulas, side by side.
func axioms(trees ...tree) impl.Net {
	var out impl.Net
	for _, f := range trees {
		a, _ := wantAxiom(f.list())
		out, _ = wantUnion(out, a)
	}
	return out
}

// somePlaces returns a permutation of the numbers below count that follows from seed.
func somePlaces(count int, seed *uint64) []int64 {
	out := make([]int64, count)
	for n := range out {
		other := choose(seed, uint64(n+1))
		out[n] = out[other]
		out[other] = int64(n)
	}
	return out
}

// inOrder returns the numbers below count.
func inOrder(count int) []int64 {
	out := make([]int64, count)
	for n := range out {
		out[n] = int64(n)
	}
	return out
}

// joinedOnce returns the net with one more link of a kind, if conclusions that follow from seed fit. For a cut, the second one is sought.
func joinedOnce(n impl.Net, kind int64, seed *uint64) impl.Net {
	if len(n.Concl) < 2 {
		return n
	}
	i, j := int64(choose(seed, uint64(len(n.Concl)))), int64(choose(seed, uint64(len(n.Concl))))
	for at, wire := range n.Concl {
		if kind == cut && slices.Equal(n.Wires[wire], treeOf(n.Wires[n.Concl[i]]).dual().list()) {
			j = int64(at)
		}
	}
	if out, ok := wantLinked(n, kind, i, j); ok {
		return out
	}
	return n
}

// grownNet returns a valid net that follows from seed. Its wires, links and conclusions are in any order.
func grownNet(seed *uint64) impl.Net {
	var n impl.Net
	few := choose(seed, 2) == 0
	for range choose(seed, []uint64{14, 7}[choose(seed, 2)]) {
		f := multTree(1+2*choose(seed, 1+uint64(choose(seed, 4))), seed)
		if few {
			f = leaf(int64(choose(seed, 2) + 1))
		}
		n, _ = wantUnion(n, axioms(f))
	}
	for range choose(seed, 20) {
		n = joinedOnce(n, allKinds[1+choose(seed, 3)], seed)
	}
	if choose(seed, 4) > 0 {
		n, _ = wantRenumbered(n, somePlaces(len(n.Wires), seed), somePlaces(len(n.Links), seed))
		n.Concl = moved(n.Concl, somePlaces(len(n.Concl), seed))
	}
	return n
}

// moved returns the elements of a list at the given places.
func moved(list, places []int64) []int64 {
	var out []int64
	for _, place := range places {
		out = append(out, list[place])
	}
	return out
}

// fullNets are valid nets at the limits: 48 wires, 48 links, long formulas, and many conclusions.
func fullNets() []impl.Net {
	out := []impl.Net{axioms(slices.Repeat([]tree{leaf(1)}, 24)...), axioms(slices.Repeat([]tree{leaf(-2)}, 23)...)}
	closed := out[0]
	for range 24 {
		closed, _ = wantLinked(closed, cut, 0, 1)
		out = append(out, closed)
	}
	seed := uint64(81)
	for size := 1; size <= 23; size += 2 {
		out = append(out, axioms(multTree(size, &seed)), axioms(slices.Repeat([]tree{multTree(size, &seed)}, 24)...), axioms(multTree(size, &seed), multTree(23, &seed)))
	}
	for _, count := range []int{12, 16, 17, 20} {
		n := axioms(slices.Repeat([]tree{leaf(1), leaf(-1), leaf(3)}, 7)[:count]...)
		for tries := 0; len(n.Wires) < 48 && tries < 500; tries++ {
			if next := joinedOnce(n, allKinds[2+choose(&seed, 2)], &seed); len(next.Wires) > len(n.Wires) {
				n = next
				out = append(out, n)
			}
		}
	}
	return out
}

// someNets returns the nets that are written out, those at the limits, and others.
func someNets() []impl.Net {
	var out []impl.Net
	for _, text := range netTexts {
		out = append(out, netOf(text))
	}
	out = append(out, fullNets()...)
	seed := uint64(82)
	for range 400 {
		out = append(out, grownNet(&seed))
	}
	return out
}

// smallNets returns the nets of someNets with at most count wires.
func smallNets(count int) []impl.Net {
	return slices.DeleteFunc(someNets(), func(n impl.Net) bool { return len(n.Wires) > count })
}

// brokenTexts are nets that are not valid, each for one reason.
var brokenTexts = []string{
	// wires that are an output of no link, or of two
	"A; ; 0", "A; ; ", "A, ~A; ; 0 1", "A, ~A, B; ax 0 1; 0 1 2", "A, ~A, (A|~A); ax 0 1; 0 1 2", "A, ~A; cut 0 1; ", "A, ~A; ax 0 1, ax 0 1; 0 1", "A, ~A; ax 0 1, ax 1 0; 0 1",
	"A, ~A, ~A; ax 0 1, ax 0 2; 0 1 2", "A, ~A, ~A; ax 0 1; 0 1 2", "A, ~A, (A|~A), (~A*A); ax 0 1, par 0 1 2, ax 2 3; 2 3", "A, ~A, A, ~A, (A*A); ax 0 1, ax 2 3, tensor 0 2 4, tensor 0 2 4; 1 3 4",
	"A, ~A, A, ~A, (A*A); ax 0 1, ax 2 3, tensor 0 2 4, tensor 2 0 4; 1 3 4", "A, A, ~A, ~A, (A*A); ax 0 2, tensor 0 1 4; 2 3 4",
	// inputs of two links, or twice of one
	"A, ~A, ~A, (A*~A), (A|~A); ax 0 1, tensor 0 1 3, par 0 1 4; 3 4", "A, ~A, (A|A); ax 0 1, par 0 0 2; 1 2", "A, ~A, (A*A); ax 0 1, tensor 0 0 2; 1 2", "A, ~A; ax 0 1, cut 0 1, cut 0 1; ",
	"A, ~A; ax 0 1, cut 0 1, cut 1 0; ", "A, ~A, (A|~A); ax 0 1, par 0 1 2, cut 0 1; 2", "A, ~A, A, ~A; ax 0 1, ax 2 3, cut 0 1, cut 0 3; 2", "A, ~A, A, ~A, (A*A), (A|A); ax 0 1, ax 2 3, tensor 0 2 4, par 0 2 5; 1 3 4 5",
	"A, ~A, (A|~A), ((A|~A)*(A|~A)); ax 0 1, par 0 1 2, tensor 2 2 3; 3",
	// conclusions that are missing, occur twice, are inputs, or no wires
	"A, ~A; ax 0 1; ", "A, ~A; ax 0 1; 0", "A, ~A; ax 0 1; 1", "A, ~A; ax 0 1; 0 0", "A, ~A; ax 0 1; 1 1", "A, ~A; ax 0 1; 0 1 0", "A, ~A; ax 0 1; 0 1 1", "A, ~A; ax 0 1; 0 1 2", "A, ~A; ax 0 1; 0 2",
	"A, ~A; ax 0 1; -1 0 1", "A, ~A; ax 0 1; 0 -1", "A, ~A, (A|~A); ax 0 1, par 0 1 2; ", "A, ~A, (A|~A); ax 0 1, par 0 1 2; 0", "A, ~A, (A|~A); ax 0 1, par 0 1 2; 2 0", "A, ~A, (A|~A); ax 0 1, par 0 1 2; 0 1 2",
	"A, ~A, (A|~A); ax 0 1, par 0 1 2; 0 1", "A, ~A, (A|~A); ax 0 1, par 0 1 2; 2 2", "A, ~A, (A|~A); ax 0 1, par 0 1 2; 3", "A, ~A; ax 0 1, cut 0 1; 0", "A, ~A; ax 0 1, cut 0 1; 0 1", "; ; 0", "; ; -1", "; ; 0 0", "; ; 48",
	// links with wires that do not exist, or where the table has 0
	"; ax 0 0; ", "; ax 0 1; 0 1", "; cut 0 0; ", "; tensor 0 0 0; ", "A, ~A; ax 0 2; 0 1", "A, ~A; ax 0 -1; 0 1", "A, ~A; ax 2 1; 0 1", "A, ~A; ax -1 1; 0 1", "A, ~A; ax 0 1 1; 0 1", "A, ~A; ax 0 1 -1; 0 1", "A, ~A; ax 0 1 2; 0 1",
	"A, ~A; ax 0 1, cut 0 1 1; ", "A, ~A; ax 0 1, cut 0 1 2; ", "A, ~A; ax 0 1, cut 0 1 -1; ", "A, ~A, (A|~A); ax 0 1 2, par 0 1 2; 2", "A, ~A, (A|~A); ax 0 1, par 0 1 3; 2", "A, ~A, (A|~A); ax 0 1, par 0 1 -1; 2",
	"A, ~A, (A|~A); ax 0 1, par 0 3 2; 2", "A, ~A, (A|~A); ax 0 1, par -1 1 2; 2", "A, ~A, (A|~A); ax 0 1, par 0 1; 2",
	// formulas that are not those of the table
	"A, A; ax 0 1; 0 1", "A, ~B; ax 0 1; 0 1", "A, B; ax 0 1; 0 1", "A, ~A; ax 0 0; 0 1", "A, ~A; ax 1 1; 0 1", "(A*B), (~A*~B); ax 0 1; 0 1", "(A*B), (~B|~A); ax 0 1; 0 1", "(A*B), (A|B); ax 0 1; 0 1", "(A*B), (~A|B); ax 0 1; 0 1",
	"A, ~A, B, ~B; ax 0 1, ax 2 3, cut 0 2; 1 3", "A, ~A, B, ~B; ax 0 1, ax 2 3, cut 0 3; 1 2", "A, ~A, A, ~A; ax 0 1, ax 2 3, cut 0 2; 1 3", "A, ~A; ax 0 1, cut 0 0; 1", "A, ~A, A, ~A; ax 0 1, ax 2 3, cut 1 1; 0 2 3",
	"A, ~A, (A|~A); ax 0 1, par 1 0 2; 2", "A, ~A, (A|~A); ax 0 1, tensor 0 1 2; 2", "A, ~A, (A*~A); ax 0 1, par 0 1 2; 2", "A, ~A, (A|A); ax 0 1, par 0 1 2; 2", "A, ~A, (~A|A); ax 0 1, par 0 1 2; 2", "A, ~A, A; ax 0 1, par 0 1 2; 2",
	"A, ~A, B, ~B, (A*~B); ax 0 1, ax 2 3, tensor 0 2 4; 1 3 4", "A, ~A, B, ~B, (A&B); ax 0 1, ax 2 3, tensor 0 2 4; 1 3 4", "A, ~A; ax 0 1, par 0 1 0; 0", "A, ~A; ax 0 1, tensor 0 1 1; ", "(A|~A), ~A; ax 0 1, par 0 1 0; ",
	// wires with formulas of other fragments
	"1, _; ax 0 1; 0 1", "(A+B), (~A&~B); ax 0 1; 0 1", "!A, ?~A; ax 0 1; 0 1", "?A, !~A; ax 0 1; 0 1", "(A*1), (~A|_); ax 0 1; 0 1", "(A|!B), (~A*?~B); ax 0 1; 0 1", "((A&B)*C), ((~A+~B)|~C); ax 0 1; 0 1", "_, 1; ax 0 1, cut 0 1; ",
	"1, _, (1|_); ax 0 1, par 0 1 2; 2", "!A, ?~A, (!A*?~A); ax 0 1, tensor 0 1 2; 2", "A, ~A, !1, ?_; ax 0 1, ax 2 3; 0 1 2 3",
}

// brokenNets returns nets that are not valid, each for one reason.
func brokenNets() []impl.Net {
	var out []impl.Net
	for _, text := range brokenTexts {
		out = append(out, netOf(text))
	}
	for _, bad := range invalidLists() {
		out = append(out, impl.Net{Wires: [][]int64{bad, dualList(bad)}, Links: []impl.Link{{Kind: ax, A: 0, B: 1}}, Concl: []int64{0, 1}})
		out = append(out, impl.Net{Wires: [][]int64{{1}, {-1}, bad}, Links: []impl.Link{{Kind: ax, A: 0, B: 1}}, Concl: []int64{0, 1, 2}})
		out = append(out, impl.Net{Wires: [][]int64{{1}, {-1}, bad}, Links: []impl.Link{{Kind: ax, A: 0, B: 1}, {Kind: par, A: 0, B: 1, C: 2}}, Concl: []int64{2}})
	}
	for _, kind := range oddKinds {
		for _, text := range []string{"A, ~A; ax 0 1; 0 1", "A, ~A; ax 0 1; ", "A, ~A, (A|~A); ax 0 1, par 0 1 2; 2", "A, ~A, (A*~A); ax 0 1, tensor 0 1 2; 2", "A, ~A; ax 0 1, cut 0 1; ", "A, ~A; ax 0 1, cut 0 1; 0 1"} {
			n := netOf(text)
			n.Links[len(n.Links)-1].Kind = kind
			out = append(out, n)
		}
		one := netOf("A, ~A; ax 0 1; 0 1")
		one.Links = append(one.Links, impl.Link{Kind: kind, A: 0, B: 1})
		out = append(out, one)
	}
	return append(out, overfullNets()...)
}

// overfullNets returns nets with more wires or links than a valid one, which are valid otherwise where that can be.
func overfullNets() []impl.Net {
	var out []impl.Net
	for _, axiomCount := range []int{25, 26, 48, 300} {
		var n, closed impl.Net
		for k := range int64(axiomCount) {
			n.Wires = append(n.Wires, []int64{1}, []int64{-1})
			n.Links = append(n.Links, impl.Link{Kind: ax, A: 2 * k, B: 2*k + 1})
			n.Concl = append(n.Concl, 2*k, 2*k+1)
		}
		closed.Wires, closed.Links = n.Wires, slices.Clone(n.Links)
		for k := range int64(axiomCount) {
			closed.Links = append(closed.Links, impl.Link{Kind: cut, A: 2 * k, B: 2*k + 1})
		}
		out = append(out, n, closed)
	}
	// 49 wires.
	joined := axioms(slices.Repeat([]tree{leaf(1)}, 24)...)
	joined.Wires = append(joined.Wires, []int64{12, 1, -1})
	joined.Links = append(joined.Links, impl.Link{Kind: par, A: 0, B: 1, C: 48})
	joined.Concl = append(joined.Concl[2:], 48)
	// 49 links between 48 wires, the last one as one of the others, or with wires of its own.
	closed := fullNets()[25]
	double, other := copyNet(closed), copyNet(closed)
	double.Links = append(double.Links, closed.Links[47])
	other.Links = append(other.Links, closed.Links[0])
	return append(out, joined, double, other, impl.Net{Links: make([]impl.Link, 49)}, impl.Net{Wires: make([][]int64, 49)}, impl.Net{Concl: make([]int64, 1000)})
}

// changedNets calls visit with nets that differ from a net in one place: in a symbol, in a field, in one conclusion, or by something that
// is left out or put in. A few of them are valid too.
func changedNets(n impl.Net, visit func(impl.Net)) {
	try := func(change func(*impl.Net)) {
		out := copyNet(n)
		change(&out)
		visit(out)
	}
	for w, f := range n.Wires {
		for at := range f {
			for _, symbol := range []int64{-f[at], f[at] + 1, 11, 12, 13, 16, 17, 0, 9} {
				try(func(out *impl.Net) { out.Wires[w][at] = symbol })
			}
		}
		try(func(out *impl.Net) { out.Wires = slices.Delete(out.Wires, w, w+1) })
		try(func(out *impl.Net) { out.Wires = slices.Insert(out.Wires, w, f) })
		try(func(out *impl.Net) { out.Wires[w] = nil })
		try(func(out *impl.Net) { out.Wires[w] = append(out.Wires[w], 1) })
	}
	for k, l := range n.Links {
		for _, kind := range slices.Concat(allKinds, oddKinds) {
			try(func(out *impl.Net) { out.Links[k].Kind = kind })
		}
		for _, wire := range append(inOrder(len(n.Wires)+1), oddNumbers...) {
			try(func(out *impl.Net) { out.Links[k].A = wire })
			try(func(out *impl.Net) { out.Links[k].B = wire })
			try(func(out *impl.Net) { out.Links[k].C = wire })
		}
		try(func(out *impl.Net) { out.Links = slices.Delete(out.Links, k, k+1) })
		try(func(out *impl.Net) { out.Links = slices.Insert(out.Links, k, l) })
		try(func(out *impl.Net) { out.Links[k].A, out.Links[k].B = l.B, l.A })
	}
	for at, wire := range n.Concl {
		for _, other := range append(inOrder(len(n.Wires)+1), oddNumbers...) {
			try(func(out *impl.Net) { out.Concl[at] = other })
		}
		try(func(out *impl.Net) { out.Concl = slices.Delete(out.Concl, at, at+1) })
		try(func(out *impl.Net) { out.Concl = slices.Insert(out.Concl, at, wire) })
		try(func(out *impl.Net) { out.Concl[at], out.Concl[0] = out.Concl[0], out.Concl[at] })
	}
	for _, wire := range append(inOrder(len(n.Wires)+1), oddNumbers...) {
		try(func(out *impl.Net) { out.Concl = append(out.Concl, wire) })
	}
	try(func(out *impl.Net) { out.Wires = append(out.Wires, []int64{1}) })
	try(func(out *impl.Net) { out.Wires = nil })
	try(func(out *impl.Net) { out.Links = nil })
	try(func(out *impl.Net) { out.Concl = nil })
}
