package tests

import (
	"slices"
	"testing"

	"loop.example/g00872/impl"
)

// ends is a net, written out, with its terminal links, its splitting links and its LastLink.
type ends struct {
	net, terminal, splitting string
	last                     int64
}

// A net with a par in one of the parts into which a tensor of smaller number divides it, one of two parts with a par each, and a ring.
const (
	parBeside    = "A, ~A, B, ~B, (A*B), (~A|~B), C, ~C, ((A*B)*C); ax 0 1, ax 2 3, tensor 0 2 4, tensor 4 6 8, ax 6 7, par 1 3 5; 5 7 8"
	twoPars      = "A, ~A, B, ~B, (A|~A), (~B|B); par 3 2 5, ax 2 3, ax 0 1, par 0 1 4; 4 5"
	crossedTwice = "A, ~A, A, ~A; ax 0 1, cut 1 2, ax 2 3, cut 3 0; "
)

var endsOfNets = []ends{
	{"; ; ", "", "", -1}, {"A, ~A; ax 0 1; 0 1", "0", "", 0}, {"(~A|~B), (A*B); ax 1 0; 1 0", "0", "", 0}, {"A, ~A, B, ~B; ax 0 1, ax 2 3; 0 1 2 3", "0 1", "", -1}, {parOfAxiom, "1", "", 1}, {"(A|~A), A, ~A; par 1 2 0, ax 2 1; 0", "0", "", 0},
	// A cut is terminal, and so is an axiom whose outputs are both conclusions; one output is not enough.
	{cutOfAxiom, "0", "", -1}, {tensorOfAxiom, "1", "", -1}, {cutOfTwo, "1", "1", 1}, {tensorOfTwo, "2", "2", 2}, {tensorTurned, "0", "0", 0}, {tensorBack, "2", "2", 2}, {"A, ~A, A, ~A; ax 0 3, ax 2 1, cut 1 0; 3 2", "2", "2", 2}, {parOfTwo, "2", "", 2},
	{"A, ~A, A, ~A, B, ~B; ax 0 1, ax 2 3, cut 1 2, ax 4 5; 0 3 4 5", "2 3", "", -1}, {"A, ~A, B, ~B, (A*B), C, ~C; ax 5 6, ax 0 1, ax 2 3, tensor 0 2 4; 1 3 4 5 6", "0 3", "", -1},
	// The link is one of several that connect both parts, or both inputs are in one part, with another part beside it or without.
	{joinedTwice, "2 3", "", 3}, {crossedTwice, "1 3", "", -1}, {"A, ~A, B, ~B, (A*B), (~A*~B); ax 0 1, ax 2 3, tensor 0 2 4, tensor 1 3 5; 4 5", "2 3", "", -1}, {"A, ~A, (A*~A), B, ~B; ax 0 1, tensor 0 1 2, ax 3 4; 2 3 4", "1 2", "", -1},
	{"A, ~A, B, ~B; ax 0 1, cut 0 1, ax 2 3; 2 3", "1 2", "", -1}, {"A, ~A, A, ~A; ax 0 1, ax 2 3, cut 0 1, cut 3 2; ", "2 3", "", -1}, {"A, ~A, B, ~B, (A*B), (~A|~B); ax 0 1, ax 2 3, tensor 0 2 4, par 1 3 5, cut 4 5; ", "4", "", -1},
	{"A, ~A, (A*~A), B, ~B, (B*(A*~A)); ax 0 1, tensor 0 1 2, ax 3 4, tensor 3 2 5; 4 5", "3", "3", 3}, {cycleFirst, "3", "", -1}, {cycleSecond, "3", "", -1},
	// Several links split, in a row or one above the other; where a tensor is an input, only the lower one is terminal.
	{threeInARow, "3 4", "3 4", 3}, {"A, ~A, A, ~A, A, ~A; cut 3 4, ax 4 5, cut 1 2, ax 2 3, ax 0 1; 0 5", "0 2", "0 2", 0}, {tensorsFirst, "3", "3", 3}, {"A, ~A, B, ~B, C, ~C, (A*B), (~B*C); ax 0 1, tensor 0 2 6, ax 2 3, tensor 3 4 7, ax 4 5; 1 6 7 5", "1 3", "1 3", 1},
	{"A, ~A, (A|~A), B, ~B, ((A|~A)*B); ax 0 1, par 0 1 2, ax 3 4, tensor 2 3 5; 4 5", "3", "3", 3},
	// A terminal par comes before a splitting link, also before a smaller one, and the first par before the others.
	{parBeside, "3 5", "3", 5}, {"A, ~A, (A|~A), B, ~B, (B|~B); ax 0 1, par 0 1 2, ax 3 4, par 3 4 5; 2 5", "1 3", "", 1}, {twoPars, "0 3", "", 0}, {parBelowCut, "0 1", "", 0}, {pathOfPars, "4", "", 4}, {parsBackward, "4", "", 4},
	{"A, ~A, (A|~A), B, ~B, (B*C), C, ~C; ax 0 1, par 0 1 2, tensor 3 6 5, ax 6 7, ax 3 4; 4 2 5 7", "1 2", "", 1}, {"A, ~A, B, ~B, (A|B), (~A|~B); ax 0 1, ax 2 3, par 0 2 4, par 1 3 5; 4 5", "2 3", "", 2},
	{"A, ~A, (A|~A), (~A*A), A, ~A; ax 0 1, par 0 1 2, ax 4 5, tensor 5 4 3, cut 2 3; ", "4", "4", 4}, {"(A*B), (~A|~B), ((A*B)|(~A|~B)); par 0 1 2, ax 0 1; 2", "0", "", 0},
}

func TestLastLinksWrittenOut(t *testing.T) {
	for _, c := range endsOfNets {
		n := netOf(c.net)
		wantList(t, "TerminalLinks of "+c.net, impl.TerminalLinks(n), numbersOf(c.terminal))
		wantList(t, "SplittingLinks of "+c.net, impl.SplittingLinks(n), numbersOf(c.splitting))
		if got := impl.LastLink(n); !isNet(n) || got != c.last || checkEnds(t, n) != c.last {
			t.Fatal("LastLink", got, "of", c.net)
		}
	}
}

// halves is a net, written out, with a splitting link and the two nets into which its removal divides the net.
type halves struct {
	net           string
	link          int64
	first, second string
}

var halvesOfNets = []halves{
	{tensorOfTwo, 2, "A, ~A; ax 0 1; 1 0", "B, ~B; ax 0 1; 1 0"}, {cutOfTwo, 1, "A, ~A; ax 0 1; 0 1", "A, ~A; ax 0 1; 1 0"},
	// The part with the producer of A comes first, wherever its wires and links stand.
	{tensorBack, 2, "B, ~B; ax 0 1; 0 1", "A, ~A; ax 0 1; 1 0"}, {tensorTurned, 0, "A, ~A; ax 0 1; 1 0", "B, ~B; ax 0 1; 1 0"}, {"A, ~A, A, ~A; ax 0 1, cut 2 1, ax 2 3; 0 3", 1, "A, ~A; ax 0 1; 1 0", "A, ~A; ax 0 1; 0 1"},
	{"A, ~A, A, ~A; ax 0 3, ax 2 1, cut 1 0; 3 2", 2, "~A, A; ax 1 0; 1 0", "A, ~A; ax 0 1; 1 0"},
	// The conclusions keep their order, and the input comes behind them.
	{tensorsFirst, 3, "(A*B), A, ~A, B, ~B; tensor 1 3 0, ax 3 4, ax 1 2; 2 4 0", "C, ~C; ax 0 1; 1 0"}, {threeInARow, 3, "A, ~A; ax 0 1; 0 1", "A, ~A, A, ~A; ax 0 1, ax 2 3, cut 1 2; 3 0"}, {threeInARow, 4, "A, ~A, A, ~A; ax 0 1, ax 2 3, cut 1 2; 0 3", "A, ~A; ax 0 1; 1 0"},
	{"A, ~A, B, ~B, C, ~C, (A*B), (~B*C); ax 0 1, tensor 0 2 6, ax 2 3, tensor 3 4 7, ax 4 5; 5 7 6 1", 1, "A, ~A; ax 0 1; 1 0", "B, ~B, C, ~C, (~B*C); ax 0 1, tensor 1 2 4, ax 2 3; 3 4 0"},
	{"A, ~A, B, ~B, C, ~C, (A*B), (~B*C); ax 0 1, tensor 0 2 6, ax 2 3, tensor 3 4 7, ax 4 5; 5 7 6 1", 3, "A, ~A, B, ~B, (A*B); ax 0 1, tensor 0 2 4, ax 2 3; 4 1 3", "C, ~C; ax 0 1; 1 0"},
	{parBeside, 3, "A, ~A, B, ~B, (A*B), (~A|~B); ax 0 1, ax 2 3, tensor 0 2 4, par 1 3 5; 5 4", "C, ~C; ax 0 1; 1 0"}, {"A, ~A, (A|~A), B, ~B, ((A|~A)*B); ax 0 1, par 0 1 2, ax 3 4, tensor 2 3 5; 4 5", 3, "A, ~A, (A|~A); ax 0 1, par 0 1 2; 2", "B, ~B; ax 0 1; 1 0"},
	// The parts need not be correct, and a part can have the input as its only conclusion.
	{"A, ~A, (A*~A), B, ~B, (B*(A*~A)); ax 0 1, tensor 0 1 2, ax 3 4, tensor 3 2 5; 4 5", 3, "B, ~B; ax 0 1; 1 0", "A, ~A, (A*~A); ax 0 1, tensor 0 1 2; 2"}, {"A, ~A, (A|~A), (~A*A), A, ~A; ax 0 1, par 0 1 2, ax 4 5, tensor 5 4 3, cut 2 3; ", 4, "A, ~A, (A|~A); ax 0 1, par 0 1 2; 2", "(~A*A), A, ~A; ax 1 2, tensor 2 1 0; 0"},
	// Both parts have wires and links in alternation.
	{"A, C, ~A, ~C, B, D, ~B, ~D, (A*B), (C*D), ((A*B)*(C*D)); ax 0 2, ax 1 3, tensor 0 4 8, tensor 1 5 9, tensor 8 9 10, ax 4 6, ax 5 7; 10 7 6 3 2", 4,
		"A, ~A, B, ~B, (A*B); ax 0 1, tensor 0 2 4, ax 2 3; 3 1 4", "C, ~C, D, ~D, (C*D); ax 0 1, tensor 0 2 4, ax 2 3; 3 1 4"},
}

func TestHalvesWrittenOut(t *testing.T) {
	for _, c := range halvesOfNets {
		n := netOf(c.net)
		first, second, ok := impl.SplitNet(n, c.link)
		if !ok || !sameNet(first, netOf(c.first)) || !sameNet(second, netOf(c.second)) {
			t.Fatalf("SplitNet of %s and %d = %v with%s\nand%s", c.net, c.link, ok, describeNet(first), describeNet(second))
		}
		if splits, _ := checkSplit(t, n, c.link); !splits || !checkRejoined(t, n, c.link) {
			t.Fatal("the tests do not know the parts of", c.net)
		}
		checkEnds(t, n)
	}
}

// removal is a net, written out, with a terminal par link and the net without it.
type removal struct {
	net  string
	link int64
	rest string
}

var removals = []removal{
	{parOfAxiom, 1, "A, ~A; ax 0 1; 0 1"}, {"A, ~A, (~A|A); ax 0 1, par 1 0 2; 2", 1, "A, ~A; ax 0 1; 1 0"}, {"(A|~A), A, ~A; par 1 2 0, ax 2 1; 0", 0, "A, ~A; ax 1 0; 0 1"},
	// The inputs stand at the beginning, in the middle and at the end, in the order of A and B.
	{joinedTwice, 3, "A, ~A, B, ~B, (A*B); ax 0 1, ax 2 3, tensor 0 2 4; 4 1 3"}, {"A, ~A, B, ~B, (A*B), (~A|~B); ax 0 1, ax 2 3, tensor 0 2 4, par 1 3 5; 5 4", 3, "A, ~A, B, ~B, (A*B); ax 0 1, ax 2 3, tensor 0 2 4; 1 3 4"},
	{"A, ~A, B, ~B, (A*B), (~B|~A); ax 0 1, ax 2 3, tensor 0 2 4, par 3 1 5; 5 4", 3, "A, ~A, B, ~B, (A*B); ax 0 1, ax 2 3, tensor 0 2 4; 3 1 4"},
	{"A, ~A, (A|~A), B, ~B; ax 0 1, par 0 1 2, ax 3 4; 3 2 4", 1, "A, ~A, B, ~B; ax 0 1, ax 2 3; 2 0 1 3"}, {"A, ~A, (~A|A), B, ~B; ax 0 1, par 1 0 2, ax 3 4; 4 3 2", 1, "A, ~A, B, ~B; ax 0 1, ax 2 3; 3 2 1 0"},
	{"A, ~A, (A|~A), B, ~B; ax 0 1, par 0 1 2, ax 3 4; 2 4 3", 1, "A, ~A, B, ~B; ax 0 1, ax 2 3; 0 1 3 2"},
	// Other par links stay, also an input, and the parts need not be connected.
	{"A, ~A, (A|~A), B, ~B, (B|~B); ax 0 1, par 0 1 2, ax 3 4, par 3 4 5; 2 5", 1, "A, ~A, B, ~B, (B|~B); ax 0 1, ax 2 3, par 2 3 4; 0 1 4"}, {"A, ~A, (A|~A), B, ~B, (B|~B); ax 0 1, par 0 1 2, ax 3 4, par 3 4 5; 2 5", 3, "A, ~A, (A|~A), B, ~B; ax 0 1, par 0 1 2, ax 3 4; 2 3 4"},
	{pathOfPars, 4, "A, ~A, B, ~B, (A*B), (~A|(A*B)); ax 0 1, ax 2 3, tensor 0 2 4, par 1 4 5; 3 5"}, {parBelowCut, 0, "A, ~A, A, ~A; cut 1 2, ax 2 3, ax 0 1; 0 3"}, {parBeside, 5, "A, ~A, B, ~B, (A*B), C, ~C, ((A*B)*C); ax 0 1, ax 2 3, tensor 0 2 4, tensor 4 5 7, ax 5 6; 1 3 6 7"},
	{parOfTwo, 2, "A, ~A, B, ~B; ax 0 1, ax 2 3; 1 3 0 2"}, {"(A*B), (~A|~B), ((A*B)|(~A|~B)); par 0 1 2, ax 0 1; 2", 0, "(A*B), (~A|~B); ax 0 1; 0 1"},
}

func TestRemovalsWrittenOut(t *testing.T) {
	for _, c := range removals {
		n := netOf(c.net)
		if got, ok := impl.RemovePar(n, c.link); !ok || !sameNet(got, netOf(c.rest)) {
			t.Fatalf("RemovePar of %s and %d = %v with%s", c.net, c.link, ok, describeNet(got))
		}
		if _, removes := checkSplit(t, n, c.link); !removes || !checkRejoined(t, n, c.link) {
			t.Fatal("the tests do not know the rest of", c.net)
		}
		checkEnds(t, n)
	}
}

// Links that are not terminal, of another kind, or not splitting have no result.
func TestLinksThatAreNotRemoved(t *testing.T) {
	for _, c := range []struct {
		net   string
		links string
	}{
		{"A, ~A; ax 0 1; 0 1", "0"}, {parOfAxiom, "0"}, {tensorOfAxiom, "0 1"}, {cutOfAxiom, "0 1"}, {joinedTwice, "0 1 2"}, {crossedTwice, "0 1 2 3"}, {pathOfPars, "0 1 2 3"}, {parsBackward, "0 1 2 3"}, {cycleFirst, "0 1 2 3"}, {cycleSecond, "0 1 2 3"},
		{tensorOfTwo, "0 1"}, {tensorsFirst, "0 1 2 4"}, {threeInARow, "0 1 2"}, {"A, ~A, (A|~A), B, ~B, ((A|~A)*B); ax 0 1, par 0 1 2, ax 3 4, tensor 2 3 5; 4 5", "0 1 2"}, {parBelowCut, "1 2 3"}, {"A, ~A, (A*~A), B, ~B; ax 0 1, tensor 0 1 2, ax 3 4; 2 3 4", "0 1 2"},
		{"A, ~A, A, ~A, B, ~B; ax 0 1, ax 2 3, cut 1 2, ax 4 5; 0 3 4 5", "0 1 2 3"}, {"A, ~A, B, ~B, (A*B), (~A|~B); ax 0 1, ax 2 3, tensor 0 2 4, par 1 3 5, cut 4 5; ", "0 1 2 3 4"},
	} {
		n := netOf(c.net)
		for _, link := range numbersOf(c.links) {
			checkNoSplit(t, n, link)
		}
		checkNoLinks(t, n)
	}
}

// Nets of all kinds, correct or not, under any numbers: what splits and what is left follows from the arcs of the net, and the link that is
// removed can be put back.
func TestEndsOfNets(t *testing.T) {
	seed, found, rejoined := uint64(231), map[int64]int{}, map[int64]int{}
	for at, n := range append(parsedNets(), correctNets()...) {
		if at%3 == 0 {
			n = mixed(n, &seed)
		}
		last := checkEnds(t, n)
		if last < 0 {
			found[last]++
		} else {
			found[n.Links[last].Kind]++
		}
		for _, link := range impl.TerminalLinks(n) {
			if checkRejoined(t, n, link) {
				rejoined[n.Links[link].Kind]++
			}
		}
	}
	if found[-1] < 200 || found[ax] < 20 || found[cut] < 50 || found[tensor] < 100 || found[par] < 200 || rejoined[cut] < 50 || rejoined[tensor] < 100 || rejoined[par] < 300 {
		t.Fatal("too few nets", found, rejoined)
	}
}

// The same for all nets that links make of two axioms.
func TestEndsOfAllNetsOfTwoAxioms(t *testing.T) {
	found := map[int64]int{}
	for _, forms := range [][]tree{{leaf(1)}, {leaf(1), leaf(1)}, {leaf(1), leaf(2)}} {
		joinedInAllWays(axioms(forms...), func(n impl.Net) {
			last := checkEnds(t, n)
			if found[min(last, 0)]++; last >= 0 && n.Links[last].Kind != ax && !checkRejoined(t, n, last) {
				t.Fatalf("the link %d is not removed, of%s", last, describeNet(n))
			}
		})
	}
	if found[0] < 1000 || found[-1] < 300 {
		t.Fatal("too few nets", found)
	}
}

// A link between two nets is terminal. A tensor or a cut is splitting if each of them has one part and the link connects them, and SplitNet
// returns the two nets again; a par is never splitting. A par of two conclusions is taken away again.
func TestEndsOfJoinedNets(t *testing.T) {
	found := map[[2]bool]int{}
	eachTwoCorrectNets(func(a, b, both impl.Net) {
		eachLinked(both, func(kind, i, j int64, n impl.Net) {
			link, size := int64(len(both.Links)), int64(len(a.Concl))
			between := (i < size) != (j < size)
			found[[2]bool{between, kind == par}]++
			if !slices.Contains(impl.TerminalLinks(n), link) || slices.Contains(impl.SplittingLinks(n), link) != (between && kind != par) {
				t.Fatalf("TerminalLinks, SplittingLinks = %v, %v of%s", impl.TerminalLinks(n), impl.SplittingLinks(n), describeNet(n))
			}
			first, second, ok := impl.SplitNet(n, link)
			if ok && i > j {
				first, second = second, first
			}
			if ok && (!sameForms(first.Wires, a.Wires) || !slices.Equal(first.Links, a.Links) || !sameForms(second.Wires, b.Wires) || !slices.Equal(second.Links, b.Links)) {
				t.Fatalf("SplitNet = %s and%s\ninstead of%s and%s", describeNet(first), describeNet(second), describeNet(a), describeNet(b))
			}
			if rest, removed := impl.RemovePar(n, link); removed != (kind == par) || removed && (!sameForms(rest.Wires, both.Wires) || !slices.Equal(rest.Links, both.Links)) {
				t.Fatalf("RemovePar = %v with%s\ninstead of%s", removed, describeNet(rest), describeNet(both))
			}
		})
	})
	for _, kind := range [][2]bool{{true, false}, {false, false}, {true, true}, {false, true}} {
		if found[kind] < 200 {
			t.Fatal("too few links", found)
		}
	}
}

// The order of the conclusions changes no link, and that of the results follows it.
func TestEndsOfArrangedNets(t *testing.T) {
	found := 0
	for _, n := range append(smallNets(9), correctNets()[:60]...) {
		if len(n.Concl) > 4 || len(n.Links) > 12 {
			continue
		}
		eachArrangement(n, func(other impl.Net) {
			if found++; checkEnds(t, other) != impl.LastLink(n) || !slices.Equal(impl.TerminalLinks(other), impl.TerminalLinks(n)) || !slices.Equal(impl.SplittingLinks(other), impl.SplittingLinks(n)) {
				t.Fatalf("LastLink changes with the order of the conclusions, of%s", describeNet(other))
			}
		})
	}
	if found < 500 {
		t.Fatal("too few nets", found)
	}
}
