package tests

import (
	"fmt"
	"math"
	"slices"
	"testing"

	"loop.example/g00872/impl"
)

// oddLinks are no links of any net; some look like one when they are cut to fewer bits.
var oddLinks = append(slices.Clone(oddNumbers), oddSymbols[9:]...)

// view is a valid net under parsing as the tests see it: with the producer and the consumer of each wire, the arcs between them, and the
// links that have been fired.
type view struct {
	net      impl.Net
	from, to []int64
	arcs     []impl.Arc
	fired    []int64
}

func viewOf(n impl.Net) view {
	v := view{net: n, arcs: allArcs(n)}
	for wire := range int64(len(n.Wires)) {
		v.from, v.to = append(v.from, wantEnd(n, wire, 'o')), append(v.to, wantEnd(n, wire, 'i'))
	}
	return v
}

// after returns the view after one link more.
func (v view) after(link int64) view {
	v.fired = append(slices.Clone(v.fired), link)
	return v
}

func (v view) isFired(link int64) bool { return slices.Contains(v.fired, link) }

// numbers returns the number of the part of each link: the least link that arcs between fired links connect it with, or -1.
func (v view) numbers() []int64 {
	inside := slices.DeleteFunc(slices.Clone(v.arcs), func(arc impl.Arc) bool { return !v.isFired(arc.From) || !v.isFired(arc.To) })
	out := slices.Repeat([]int64{-1}, len(v.net.Links))
	for _, least := range slices.Sorted(slices.Values(v.fired)) {
		if out[least] < 0 {
			for _, link := range reachedFrom(inside, least) {
				out[link] = least
			}
		}
	}
	return out
}

// parts is PartsAfter as the tests see it.
func (v view) parts() []int64 { return moved(v.numbers(), v.from) }

// open is OpenWires as the tests see it.
func (v view) open() []int64 {
	isClosed := func(wire int64) bool { return !v.isFired(v.from[wire]) || v.isFired(v.to[wire]) }
	return slices.DeleteFunc(inOrder(len(v.net.Wires)), isClosed)
}

// ready is ReadyLinks as the tests see it.
func (v view) ready() []int64 {
	parts, open := v.parts(), v.open()
	var out []int64
	for k, l := range v.net.Links {
		isClosed := func(wire int64) bool { return !slices.Contains(open, wire) }
		inputs := wiresIn(l, 'i')
		different := len(slices.Compact(moved(parts, inputs)))
		want := map[int64]int{ax: 0, cut: 2, tensor: 2, par: 1}[l.Kind]
		if !v.isFired(int64(k)) && !slices.ContainsFunc(inputs, isClosed) && different == want {
			out = append(out, int64(k))
		}
	}
	return out
}

// isWhole reports whether all links have been fired and all wires belong to one part.
func (v view) isWhole() bool {
	return len(v.fired) == len(v.net.Links) && len(slices.Compact(slices.Sorted(slices.Values(v.parts())))) == 1
}

// left returns the links that have not been fired.
func (v view) left() []int64 { return slices.DeleteFunc(inOrder(len(v.net.Links)), v.isFired) }

// wantFired returns the view after a list of links, and whether it is a firing sequence of the net.
func wantFired(n impl.Net, fired []int64) (view, bool) {
	if !isNet(n) {
		return view{}, false
	}
	v := viewOf(n)
	for _, link := range fired {
		if !slices.Contains(v.ready(), link) {
			return view{}, false
		}
		v = v.after(link)
	}
	return v, true
}

// wantOrder returns the view of a valid net after links have been fired until none is ready, each time the chosen one.
func wantOrder(n impl.Net, choose func([]int64) int64) view {
	v := viewOf(n)
	for ready := v.ready(); len(ready) > 0; ready = v.ready() {
		v = v.after(choose(ready))
	}
	return v
}

// checkFired compares all functions of a net and a firing sequence with the expectation.
func checkFired(t *testing.T, v view) {
	t.Helper()
	if !impl.IsFiringSequence(v.net, v.fired) {
		t.Fatalf("IsFiringSequence(%v) = false of%s", v.fired, describeNet(v.net))
	}
	if got, ok := impl.ReadyLinks(v.net, v.fired); !ok || !slices.Equal(got, v.ready()) {
		t.Fatalf("ReadyLinks(%v) = %v, %v, want %v of%s", v.fired, got, ok, v.ready(), describeNet(v.net))
	}
	if got, ok := impl.PartsAfter(v.net, v.fired); !ok || !slices.Equal(got, v.parts()) {
		t.Fatalf("PartsAfter(%v) = %v, %v, want %v of%s", v.fired, got, ok, v.parts(), describeNet(v.net))
	}
	if got, ok := impl.OpenWires(v.net, v.fired); !ok || !slices.Equal(got, v.open()) {
		t.Fatalf("OpenWires(%v) = %v, %v, want %v of%s", v.fired, got, ok, v.open(), describeNet(v.net))
	}
}

// checkNotFired fails if a function has a result for what is no firing sequence.
func checkNotFired(t *testing.T, n impl.Net, fired []int64) {
	t.Helper()
	ready, readyOk := impl.ReadyLinks(n, fired)
	parts, partsOk := impl.PartsAfter(n, fired)
	open, openOk := impl.OpenWires(n, fired)
	if impl.IsFiringSequence(n, fired) || readyOk || partsOk || openOk || len(ready) > 0 || len(parts) > 0 || len(open) > 0 {
		t.Fatalf("a result for %v, which is no firing sequence: %v, %v or %v of%s", shortened(fired), ready, shortened(parts), open, describeNet(n))
	}
}

// checkSequence compares all functions of a net and a list with the expectation, and reports whether it is a firing sequence.
func checkSequence(t *testing.T, n impl.Net, fired []int64) bool {
	t.Helper()
	v, ok := wantFired(n, fired)
	if ok {
		checkFired(t, v)
	} else {
		checkNotFired(t, n, fired)
	}
	return ok
}

// checkNoParsing fails if a function has a result for what is no valid net.
func checkNoParsing(t *testing.T, n impl.Net) {
	t.Helper()
	for _, fired := range [][]int64{nil, {}, {0}, {0, 1}, {1}, {-1}, {math.MaxInt64}, {math.MinInt64}, {int64(len(n.Links)) - 1}, {int64(len(n.Links))}} {
		checkNotFired(t, n, fired)
	}
	if first, last, stuck := impl.FiringOrder(n), impl.LastFiringOrder(n), impl.StuckLinks(n); len(first) > 0 || len(last) > 0 || len(stuck) > 0 || impl.CorrectByParsing(n) {
		t.Fatalf("FiringOrder, LastFiringOrder, StuckLinks = %v, %v, %v of%s", first, last, stuck, describeNet(n))
	}
}

// checkParsing compares all functions of a net alone with the expectation, and those of a firing sequence for both orders. It reports
// whether the net is correct.
func checkParsing(t *testing.T, n impl.Net) bool {
	t.Helper()
	if !isNet(n) {
		checkNoParsing(t, n)
		return false
	}
	first, last := wantOrder(n, slices.Min), wantOrder(n, slices.Max)
	if got := impl.FiringOrder(n); !slices.Equal(got, first.fired) {
		t.Fatalf("FiringOrder = %v, want %v of%s", got, first.fired, describeNet(n))
	}
	if got := impl.LastFiringOrder(n); !slices.Equal(got, last.fired) {
		t.Fatalf("LastFiringOrder = %v, want %v of%s", got, last.fired, describeNet(n))
	}
	if got := impl.StuckLinks(n); !slices.Equal(got, first.left()) {
		t.Fatalf("StuckLinks = %v, want %v of%s", got, first.left(), describeNet(n))
	}
	if impl.CorrectByParsing(n) != first.isWhole() {
		t.Fatalf("CorrectByParsing = %v of%s", !first.isWhole(), describeNet(n))
	}
	if first.isWhole() != last.isWhole() {
		t.Fatalf("whether the net is correct depends on the order, of%s", describeNet(n))
	}
	checkFired(t, viewOf(n))
	checkFired(t, first)
	checkFired(t, last)
	return first.isWhole()
}

// eachFiring calls visit with the view of a valid net after every firing sequence that continues that of the view.
func eachFiring(v view, visit func(view)) {
	visit(v)
	for _, link := range v.ready() {
		eachFiring(v.after(link), visit)
	}
}

// isOnePart reports whether a list of numbers of parts has no -1 and only equal elements, at least one.
func isOnePart(parts []int64) bool {
	return len(parts) > 0 && slices.Min(parts) >= 0 && slices.Min(parts) == slices.Max(parts)
}

// isParsed reports whether a firing sequence contains all links of a net and unites them, by what the program returns.
func isParsed(t *testing.T, n impl.Net, fired []int64) bool {
	t.Helper()
	parts, ok := impl.PartsAfter(n, fired)
	if !ok {
		t.Fatalf("PartsAfter(%v) = %v, false of%s", fired, parts, describeNet(n))
	}
	return len(fired) == len(n.Links) && isOnePart(parts)
}

// firedSomehow fires links of a valid net that the program says are ready, chosen by seed, until none is.
func firedSomehow(t *testing.T, n impl.Net, seed *uint64) []int64 {
	t.Helper()
	fired := []int64{}
	for {
		ready, ok := impl.ReadyLinks(n, fired)
		if !ok || len(fired) > len(n.Links) {
			t.Fatalf("ReadyLinks(%v) = %v, %v of%s", fired, ready, ok, describeNet(n))
		}
		if len(ready) == 0 {
			return fired
		}
		fired = append(fired, ready[choose(seed, uint64(len(ready)))])
	}
}

// eachEnd calls visit with a firing sequence for every set of links after which the program says that none is ready.
func eachEnd(t *testing.T, n impl.Net, visit func([]int64)) {
	t.Helper()
	seen := map[uint64]bool{}
	var fire func(fired []int64, set uint64)
	fire = func(fired []int64, set uint64) {
		if seen[set] {
			return
		}
		seen[set] = true
		ready, ok := impl.ReadyLinks(n, fired)
		if !ok {
			t.Fatalf("ReadyLinks(%v) = %v, false of%s", fired, ready, describeNet(n))
		}
		for _, link := range ready {
			fire(append(slices.Clone(fired), link), set|1<<link)
		}
		if len(ready) == 0 {
			visit(fired)
		}
	}
	fire(nil, 0)
}

// cutChain returns a net of axioms with a cut between each and the next one.
func cutChain(count int) impl.Net {
	n := axioms(slices.Repeat([]tree{leaf(1)}, count)...)
	for k := range int64(count - 1) {
		n, _ = joinedAt(n, cut, 2*k+1, 2*k+2)
	}
	return n
}

// cutRing is a chain whose last axiom is cut with the first one too.
func cutRing(count int) impl.Net {
	n, _ := joinedAt(cutChain(count), cut, 2*int64(count)-1, 0)
	return n
}

// turned returns the net with the links in the opposite order.
func turned(n impl.Net) impl.Net {
	links := inOrder(len(n.Links))
	slices.Reverse(links)
	out, _ := wantRenumbered(n, inOrder(len(n.Wires)), links)
	return out
}

// mixed returns the net with other numbers of wires and links, and its conclusions in another order.
func mixed(n impl.Net, seed *uint64) impl.Net {
	out, _ := wantRenumbered(n, somePlaces(len(n.Wires), seed), somePlaces(len(n.Links), seed))
	out.Concl = moved(out.Concl, somePlaces(len(n.Concl), seed))
	return out
}

// parsedNets are nets of all kinds: written out, at the limits, and others, correct and not.
func parsedNets() []impl.Net {
	out := slices.Concat(someNets(), someAtomicNets(), []impl.Net{parChains(10), parChains(11), parChains(22), oneFailing(6, 21), oneFailing(10, 700)})
	for _, count := range []int{2, 3, 4, 7, 23, 24} {
		out = append(out, cutChain(count), turned(cutChain(count)), cutRing(count), turned(cutRing(count)))
	}
	for _, c := range orders {
		out = append(out, netOf(c.net))
	}
	return out
}

// describeFired writes firing sequences for messages.
func describeFired(lists ...[]int64) string { return fmt.Sprint(lists) }
