package tests

import (
	"fmt"
	"slices"

	"loop.example/g00872/impl"
)

// grownMultProof returns a multiplicative proof whose steps and fields follow from seed.
func grownMultProof(seed *uint64) []impl.Step {
	return (&growth{seed: seed, plain: true}).grown(multRules)
}

// someMultProofs returns multiplicative proofs: those that are written out, those at the limits, and others, some of exactly 40 steps.
func someMultProofs() [][]impl.Step {
	out := fullProofs()
	for _, c := range netsOfProofs {
		list, _ := wantReadProof(c.proof)
		out = append(out, list)
	}
	seed := uint64(101)
	for n := range 500 {
		grown := grownMultProof(&seed)
		out = append(out, grown)
		if n%10 == 0 && len(endOfProof(grown)) > 1 {
			out = append(out, padded(grown, 40))
		}
	}
	return out
}

// then returns the proof with one more step, whose premise is the last one.
func then(list []impl.Step, rule, i, j int64) []impl.Step {
	return append(slices.Clone(list), step(rule, int64(len(list))-1, -1, i, j))
}

// both returns the steps of two proofs and one more step, whose premises are their last ones.
func both(p, q []impl.Step, rule, i, j int64) []impl.Step {
	out := behind(p, q)
	return append(out, step(rule, int64(len(p))-1, int64(len(out))-1, i, j))
}

// blocks returns a proof of (A*A), (~A|~A) by as many proofs of the same, one cut with the next. Each has four steps and six wires, and a
// cut is one step more without a wire.
func blocks(count int) []impl.Step {
	block := []impl.Step{axiom(1), axiom(1), step(tensor, 0, 1, 0, 0), step(par, 2, -1, 0, 1)}
	out := block
	for range count - 1 {
		out = both(out, block, cut, 1, 0)
	}
	return out
}

// tenFormulas returns a proof of ten formulas, with 48 wires in 39 steps.
func tenFormulas() []impl.Step {
	out := []impl.Step{axiom(1)}
	for range 11 {
		out = both(out, []impl.Step{axiom(1)}, cut, 1, 0)
	}
	for range 8 {
		out = both(out, []impl.Step{axiom(-3)}, tensor, 0, 1)
	}
	return out
}

// joinedBlocks returns a proof that ends with some tensors. Each has two steps and three wires.
func joinedBlocks(tensors int) []impl.Step {
	out := blocks(7)
	for range tensors {
		out = both(out, []impl.Step{axiom(2)}, tensor, 0, 0)
	}
	return out
}

// fullProofs are multiplicative proofs of 38 to 40 steps whose nets have exactly 48 wires, and proofs that are shorter by one part.
func fullProofs() [][]impl.Step {
	return [][]impl.Step{
		blocks(8), then(blocks(8), swap, 0, 1), tenFormulas(), then(tenFormulas(), swap, 2, 9), then(tenFormulas(), swap, 0, 1), joinedBlocks(2), then(joinedBlocks(2), swap, 1, 2),
		blocks(7), then(blocks(7), par, 0, 1), then(then(blocks(7), swap, 0, 1), par, 1, 0), joinedBlocks(1), then(joinedBlocks(1), par, 0, 2),
	}
}

// overfullProofs are multiplicative proofs whose nets would have 49 or 51 wires.
func overfullProofs() [][]impl.Step {
	out := [][]impl.Step{then(blocks(8), par, 0, 1), then(blocks(8), par, 1, 0), then(joinedBlocks(2), par, 0, 2), joinedBlocks(3)}
	for i := range int64(10) {
		out = append(out, then(tenFormulas(), par, i, (i+3)%10))
	}
	return out
}

// matedSeq returns a sequent of formulas of these sizes with some atoms, and mates of it, which follow from seed; and whether its leaves
// are even in number.
func matedSeq(sizes []int, atoms uint64, seed *uint64) (impl.Seq, []int64, bool) {
	var q impl.Seq
	var leaves []*int64
	for _, size := range sizes {
		f := multTree(size, seed).list()
		q.Forms = append(q.Forms, f)
		for at := range f {
			if f[at] < 11 {
				leaves = append(leaves, &f[at])
			}
		}
	}
	if len(leaves)%2 > 0 {
		return impl.Seq{}, nil, false
	}
	mates, places := make([]int64, len(leaves)), somePlaces(len(leaves), seed)
	for at := 0; at < len(places); at += 2 {
		a, b := places[at], places[at+1]
		*leaves[a] = int64(choose(seed, atoms)) + 1
		*leaves[b] = -*leaves[a]
		mates[a], mates[b] = b, a
	}
	return q, mates, true
}

// mated is a sequent with mates.
type mated struct {
	q     impl.Seq
	mates []int64
}

// someMated returns sequents with mates: short and long ones, with few and with many atoms.
func someMated() []mated {
	var out []mated
	seed := uint64(102)
	for n := range 800 {
		var sizes []int
		left := 2 + choose(&seed, 46)
		for range choose(&seed, 11) {
			if size := 1 + 2*choose(&seed, []uint64{12, 3}[n%2]); size <= left {
				sizes = append(sizes, size)
				left -= size
			}
		}
		if q, mates, ok := matedSeq(sizes, []uint64{1, 2, 8}[n%3], &seed); ok {
			out = append(out, mated{q, mates})
		}
	}
	return out
}

// eachMates calls visit with all mates of a sequent with these leaves: the first leaf without a mate gets one after the other.
func eachMates(leaves []int64, visit func([]int64)) {
	mates := slices.Repeat([]int64{-1}, len(leaves))
	var extend func()
	extend = func() {
		first := slices.Index(mates, -1)
		if first < 0 {
			visit(slices.Clone(mates))
			return
		}
		for other := first + 1; other < len(leaves); other++ {
			if mates[other] < 0 && leaves[other] == -leaves[first] {
				mates[first], mates[other] = int64(other), int64(first)
				extend()
				mates[first], mates[other] = -1, -1
			}
		}
	}
	extend()
}

// flipped returns the net with A and B of the axioms exchanged that follow from seed.
func flipped(n impl.Net, seed *uint64) impl.Net {
	out := copyNet(n)
	for k, l := range out.Links {
		if l.Kind == ax && choose(seed, 2) == 0 {
			out.Links[k].A, out.Links[k].B = l.B, l.A
		}
	}
	return out
}

// grownAtomicNet returns a cut-free net with atomic axioms that follows from seed. Its wires, links and conclusions are in any order.
func grownAtomicNet(seed *uint64) impl.Net {
	var n impl.Net
	for range choose(seed, 10) {
		n, _ = wantUnion(n, axioms(leaf(int64(choose(seed, 3)+1)*[]int64{1, -1}[choose(seed, 2)])))
	}
	for range choose(seed, 24) {
		n = joinedOnce(n, []int64{tensor, par}[choose(seed, 2)], seed)
	}
	n, _ = wantRenumbered(n, somePlaces(len(n.Wires), seed), somePlaces(len(n.Links), seed))
	n.Concl = moved(n.Concl, somePlaces(len(n.Concl), seed))
	return flipped(n, seed)
}

// someAtomicNets returns cut-free nets with atomic axioms.
func someAtomicNets() []impl.Net {
	out := []impl.Net{{}}
	seed := uint64(103)
	for range 400 {
		out = append(out, grownAtomicNet(&seed))
	}
	return out
}

// describeMated writes a sequent and mates for messages.
func describeMated(m mated) string { return fmt.Sprintf("%s with %v", textOfForms(m.q.Forms), m.mates) }
