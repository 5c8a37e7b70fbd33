package tests

import (
	"slices"

	"loop.example/g00872/impl"
)

// Nets of two axioms, written out: with a tensor and a par of one output of each, and with a cycle in the graph of the first and of the
// second switching alone.
const (
	joinedTwice = "A, ~A, B, ~B, (A*B), (~A|~B); ax 0 1, ax 2 3, tensor 0 2 4, par 1 3 5; 4 5"
	cycleFirst  = "A, ~A, B, ~B, (A|B), ((A|B)*~A); ax 0 1, ax 2 3, par 0 2 4, tensor 4 1 5; 3 5"
	cycleSecond = "A, ~A, B, ~B, (B|A), ((B|A)*~A); ax 0 1, ax 2 3, par 2 0 4, tensor 4 1 5; 3 5"
)

// verdict is a net, written out, with the index of its first failing switching and the fault.
type verdict struct {
	net          string
	index, fault int64
}

// verdicts are nets with what FailingSwitching returns for them.
var verdicts = []verdict{
	// One node without arcs, and none at all.
	{"A, ~A; ax 0 1; 0 1", -1, 0}, {"~H, H; ax 1 0; 1 0", -1, 0}, {"(A*B), (~A|~B); ax 0 1; 0 1", -1, 0}, {"; ; ", 0, faultSplit},
	// Both outputs of one axiom are joined.
	{"A, ~A, (A|~A); ax 0 1, par 0 1 2; 2", -1, 0}, {"A, ~A, (~A|A); ax 0 1, par 1 0 2; 2", -1, 0}, {"(A|~A), A, ~A; par 1 2 0, ax 2 1; 0", -1, 0}, {"A, ~A, (A*~A); ax 0 1, tensor 0 1 2; 2", 0, faultCycle},
	{"(~A*A), A, ~A; tensor 2 1 0, ax 1 2; 0", 0, faultCycle}, {"A, ~A; ax 0 1, cut 0 1; ", 0, faultCycle}, {"A, ~A; cut 1 0, ax 0 1; ", 0, faultCycle}, {"(A*B), (~A|~B); ax 0 1, cut 0 1; ", 0, faultCycle},
	// Two axioms: side by side, and joined once.
	{"A, ~A, B, ~B; ax 0 1, ax 2 3; 0 1 2 3", 0, faultSplit}, {"A, ~A, A, ~A, A, ~A; ax 0 1, ax 2 5, ax 4 3; 0 1 2 3 4 5", 0, faultSplit}, {"A, ~A, B, ~B, (A*B); ax 0 1, ax 2 3, tensor 0 2 4; 1 3 4", -1, 0},
	{"A, ~A, A, ~A; ax 0 1, ax 2 3, cut 1 2; 0 3", -1, 0}, {"A, ~A, A, ~A; ax 0 3, cut 1 0, ax 2 1; 3 2", -1, 0}, {"A, ~A, B, ~B, (A|B); ax 0 1, ax 2 3, par 0 2 4; 1 3 4", 0, faultSplit},
	// Two axioms, joined twice.
	{joinedTwice, -1, 0}, {"A, ~A, B, ~B, (A*B), (~A*~B); ax 0 1, ax 2 3, tensor 0 2 4, tensor 1 3 5; 4 5", 0, faultCycle},
	{"A, ~A, B, ~B, (A|B), (~A|~B); ax 0 1, ax 2 3, par 0 2 4, par 1 3 5; 4 5", 0, faultSplit}, {"A, ~A, A, ~A; ax 0 1, cut 1 2, ax 2 3, cut 3 0; ", 0, faultCycle},
	{"A, ~A, B, ~B, (A*B), (~A|~B); ax 0 1, ax 2 3, tensor 0 2 4, par 1 3 5, cut 4 5; ", 0, faultCycle}, {"A, ~A, (A|~A), B, ~B, ((A|~A)*B); ax 0 1, par 0 1 2, ax 3 4, tensor 2 3 5; 4 5", -1, 0},
	// A cycle in one of two switchings alone; the other graph is a tree.
	{cycleFirst, 0, faultCycle}, {cycleSecond, 1, faultCycle},
	{"A, ~A, B, ~B, (A|B), (~A*(A|B)); tensor 1 4 5, par 0 2 4, ax 2 3, ax 1 0; 3 5", 0, faultCycle}, {"A, ~A, B, ~B, (B|A), ((B|A)*~A); tensor 4 1 5, par 2 0 4, ax 3 2, ax 0 1; 5 3", 1, faultCycle},
	// The same beside one more axiom, so that no graph is a tree: one has a cycle, and the other one is split.
	{"A, ~A, B, ~B, (A|B), ((A|B)*~A), C, ~C; ax 0 1, ax 2 3, par 0 2 4, tensor 4 1 5, ax 6 7; 3 5 6 7", 0, faultCycle},
	{"A, ~A, B, ~B, (B|A), ((B|A)*~A), C, ~C; ax 0 1, ax 2 3, par 2 0 4, tensor 4 1 5, ax 6 7; 3 5 6 7", 0, faultSplit},
	// A cycle in every graph, while only one of them is split.
	{"A, ~A, B, ~B, C, ~C, (B*C), (~B*~C), (A|(B*C)), ((A|(B*C))*~A); ax 0 1, ax 2 3, ax 4 5, tensor 2 4 6, tensor 3 5 7, par 0 6 8, tensor 8 1 9; 7 9", 0, faultCycle},
	{"A, ~A, B, ~B, C, ~C, (B*C), (~B*~C), ((B*C)|A), (((B*C)|A)*~A); ax 0 1, ax 2 3, ax 4 5, tensor 2 4 6, tensor 3 5 7, par 6 0 8, tensor 8 1 9; 7 9", 0, faultCycle},
	// A cycle in every graph, while none of them or each of them is split.
	{"A, ~A, B, ~B, (A|B), ((A|B)*~A), (((A|B)*~A)*~B); ax 0 1, ax 2 3, par 0 2 4, tensor 4 1 5, tensor 5 3 6; 6", 0, faultCycle},
	{"A, ~A, B, ~B, (A*~A), ((A*~A)|B); ax 0 1, ax 2 3, tensor 0 1 4, par 4 2 5; 3 5", 0, faultCycle}, {"A, ~A, B, ~B, (A*~A), (B|(A*~A)); ax 0 1, ax 2 3, tensor 0 1 4, par 2 4 5; 3 5", 0, faultCycle},
	// A cycle beside other parts comes before the split.
	{"A, ~A, B, ~B; ax 0 1, cut 0 1, ax 2 3; 2 3", 0, faultCycle}, {"A, ~A, B, ~B; ax 2 3, ax 0 1, cut 0 1; 2 3", 0, faultCycle}, {"A, ~A, A, ~A; ax 0 1, ax 2 3, cut 0 1, cut 3 2; ", 0, faultCycle},
	{"A, ~A, (A*~A), B, ~B, (B|~B); ax 3 4, par 3 4 5, ax 0 1, tensor 0 1 2; 5 2", 0, faultCycle},
	// Three par links; the third one alone decides, and the first fault has the index 4.
	{"A, ~A, B, ~B, C, ~C, (C|~C), D, ~D, (D|~D), (B|A), ((B|A)*~A), ((C|~C)*(D|~D)), (((C|~C)*(D|~D))*~B); ax 0 1, ax 2 3, ax 4 5, par 4 5 6, ax 7 8, par 7 8 9, par 2 0 10, tensor 10 1 11, tensor 6 9 12, tensor 12 3 13; 11 13", 4, faultCycle},
	// The same with the deciding par link as the second one and as the first one.
	{"A, ~A, B, ~B, C, ~C, (C|~C), D, ~D, (D|~D), (B|A), ((B|A)*~A), ((C|~C)*(D|~D)), (((C|~C)*(D|~D))*~B); ax 0 1, ax 2 3, ax 4 5, par 4 5 6, ax 7 8, par 2 0 10, par 7 8 9, tensor 10 1 11, tensor 6 9 12, tensor 12 3 13; 11 13", 2, faultCycle},
	{"A, ~A, B, ~B, C, ~C, (C|~C), D, ~D, (D|~D), (B|A), ((B|A)*~A), ((C|~C)*(D|~D)), (((C|~C)*(D|~D))*~B); ax 0 1, ax 2 3, ax 4 5, par 2 0 10, par 4 5 6, ax 7 8, par 7 8 9, tensor 10 1 11, tensor 6 9 12, tensor 12 3 13; 11 13", 1, faultCycle},
}

// joinedAt returns the net with a link of a kind whose inputs are two conclusions, given as wires, and the wire that is its output.
func joinedAt(n impl.Net, kind, a, b int64) (impl.Net, int64) {
	out, _ := wantLinked(n, kind, int64(slices.Index(n.Concl, a)), int64(slices.Index(n.Concl, b)))
	return out, int64(len(n.Wires))
}

// oneFailing returns a net with up to ten par links, of whose graphs only that of the switching with an index is no tree. A way leads from
// one output of the first axiom over all par links to the other output, if each of them has its input on this way chosen. The other inputs
// are connected with each other.
func oneFailing(pars int, index int64) impl.Net {
	n := axioms(slices.Repeat([]tree{leaf(1)}, pars+1)...)
	way, rest := int64(0), int64(3)
	for k, choice := range switchingAt(index, pars) {
		inputs := []int64{int64(2*k + 2), int64(2*k + 2)}
		inputs[choice] = way
		n, way = joinedAt(n, par, inputs[0], inputs[1])
	}
	n, _ = joinedAt(n, tensor, way, 1)
	for k := range max(pars-1, 0) {
		n, rest = joinedAt(n, tensor, rest, int64(2*k+5))
	}
	return n
}

// parChains returns a net of twelve axioms and up to 22 par links, which is not correct: each of the first eleven has the one before it as
// an input, and each of the others likewise.
func parChains(pars int) impl.Net {
	n := axioms(slices.Repeat([]tree{leaf(2)}, 12)...)
	for k := range int64(pars) {
		first := k / 11 * 12
		way := first
		if k%11 > 0 {
			way = int64(len(n.Wires)) - 1
		}
		n, _ = joinedAt(n, par, way, first+k%11+1)
	}
	return n
}

// leafyProof returns a proof of a formula with so many leaves and its dual. Its net has one par link less than leaves.
func leafyProof(leaves int, seed *uint64) []impl.Step {
	return wantIdentity(multTree(2*leaves-1, seed))
}

// joinedInAllWays calls visit with every net that links of all kinds make of a net, one after the other, and with the net itself.
func joinedInAllWays(n impl.Net, visit func(impl.Net)) {
	visit(n)
	eachLinked(n, func(_, _, _ int64, linked impl.Net) { joinedInAllWays(linked, visit) })
}

// netsOfParts returns the nets of all parts of multiplicative proofs.
func netsOfParts() []impl.Net {
	var out []impl.Net
	for _, list := range someMultProofs() {
		for k := range int64(len(list)) {
			part, _ := impl.SubProof(list, k)
			n, _ := impl.NetOf(part)
			out = append(out, n)
		}
	}
	return out
}

// correctNets are nets of proofs with at most 20 wires.
func correctNets() []impl.Net {
	var out []impl.Net
	for _, list := range someMultProofs() {
		if n, ok := wantNetOf(list); ok && len(n.Wires) <= 20 {
			out = append(out, n)
		}
	}
	return out
}

// smallGrownNet returns a net with up to four axioms and ten other links, which follow from seed, in any order.
func smallGrownNet(seed *uint64) impl.Net {
	n := axioms(slices.Repeat([]tree{leaf(1), leaf(-1)}, 2)[:1+choose(seed, 4)]...)
	for range 3 + choose(seed, 8) {
		n = joinedOnce(n, allKinds[1+choose(seed, 3)], seed)
	}
	n, _ = wantRenumbered(n, somePlaces(len(n.Wires), seed), somePlaces(len(n.Links), seed))
	return n
}

// eachPair calls visit with every pair of numbers below count.
func eachPair(count int, visit func(i, j int64)) {
	for i := range int64(count) {
		for j := range int64(count) {
			visit(i, j)
		}
	}
}

// eachTwoCorrectNets calls visit with pairs of correct nets, and with both side by side. There are cuts between many of them.
func eachTwoCorrectNets(visit func(a, b, both impl.Net)) {
	nets := correctNets()
	for k, a := range nets {
		b := nets[(k*5+3)%len(nets)]
		if k%2 == 0 && len(a.Concl) > 0 {
			b, _ = wantAxiom(a.Wires[a.Concl[0]])
		}
		both, _ := wantUnion(a, b)
		visit(a, b, both)
	}
}

// eachLinked calls visit with every net that one more link makes of a net, with its kind and the positions of the conclusions that it joins.
func eachLinked(n impl.Net, visit func(kind, i, j int64, linked impl.Net)) {
	eachPair(len(n.Concl), func(i, j int64) {
		for _, kind := range []int64{cut, tensor, par} {
			if linked, ok := wantLinked(n, kind, i, j); ok {
				visit(kind, i, j, linked)
			}
		}
	})
}
