package tests

import (
	"math"
	"runtime"
	"slices"
	"strings"
	"sync"
	"testing"
	"time"

	"loop.example/g00872/impl"
)

// The functions that write a net change nothing, and do not look behind its lists.
func TestNetTextsChangeNothing(t *testing.T) {
	for _, plain := range append(netsOfMemory(), longestNet()) {
		for _, guard := range []func(impl.Net) (impl.Net, func() bool){guardedNet, packedNet} {
			n, changed := guard(plain)
			checkNetTexts(t, n)
			overwrite(impl.KindCounts(n))
			if checkNetTexts(t, n); changed() {
				t.Fatalf("an argument is changed:%s", describeNet(plain))
			}
			counts := impl.KindCounts(n)
			overwriteNet(n)
			wantList(t, "KindCounts after a change of its argument", counts, wantKindCounts(plain))
		}
	}
}

// What ReadNet returns belongs to the caller alone, each formula and each list, the capacity included; also where lines are equal.
func TestReadNetsUnshared(t *testing.T) {
	nets := append(smallNets(12), axioms(slices.Repeat([]tree{leaf(1)}, 24)...), axioms(slices.Repeat([]tree{meaningOf("(A*B)")}, 4)...), longestNet())
	for _, n := range nets {
		text := wantNetText(n)
		other, _ := impl.ReadNet(text)
		call := func() (impl.Net, bool) { return impl.ReadNet(text) }
		if !checkNetUnshared(t, "ReadNet", call, func() bool { return !sameNet(other, n) }) {
			t.Fatalf("ReadNet(%q) = false", text)
		}
	}
}

// Lists of many elements and extreme numbers: every function returns, and finds no net.
func TestTextsOfGreatNets(t *testing.T) {
	const many = 1 << 18
	one := netOf("A, ~A; ax 0 1; 0 1")
	long := slices.Repeat([]int64{11}, many)
	for _, n := range []impl.Net{
		{Wires: make([][]int64, many)}, {Links: make([]impl.Link, many)}, {Concl: make([]int64, many)}, {Wires: slices.Repeat(one.Wires, many)},
		{Wires: one.Wires, Links: slices.Repeat(one.Links, many), Concl: one.Concl}, {Wires: one.Wires, Links: one.Links, Concl: slices.Repeat(one.Concl, many)},
		{Wires: [][]int64{long, long}, Links: one.Links, Concl: one.Concl}, {Wires: [][]int64{bangs(many)}, Concl: []int64{0}},
		{Wires: slices.Repeat(one.Wires, many), Links: slices.Repeat(one.Links, many), Concl: slices.Repeat(one.Concl, many)},
		{Wires: one.Wires, Links: []impl.Link{{Kind: math.MaxInt64, A: math.MinInt64, B: math.MaxInt64, C: math.MinInt64}}, Concl: one.Concl},
		{Wires: one.Wires, Links: []impl.Link{{Kind: math.MinInt64}}, Concl: []int64{math.MinInt64, math.MaxInt64}},
	} {
		if impl.NetText(n) != "" || impl.NetOutline(n) != "" || len(impl.KindCounts(n)) != 0 {
			t.Fatal("a text of a great net")
		}
		for _, wire := range []int64{0, 1, 2, -1, many - 1, many, math.MaxInt64, math.MinInt64} {
			if got := impl.TreeText(n, wire); got != "" {
				t.Fatalf("TreeText = %q of a great net", got)
			}
		}
	}
}

// settled reports whether there are soon no more goroutines than before.
func settled(before int) bool {
	for range 500 {
		if runtime.NumGoroutine() <= before {
			return true
		}
		time.Sleep(10 * time.Millisecond)
	}
	return false
}

// No call leaves a goroutine behind it, whatever line of the text is at fault.
func TestNoGoroutineIsLeft(t *testing.T) {
	before := runtime.NumGoroutine()
	texts := []string{"", "concl\n", "concl", "\n", strings.Repeat("\n", 4000), strings.Repeat("\n", 4001), strings.Repeat("x\n", 2000), strings.Repeat("wire A\n", 500), strings.Repeat("concl\n", 600),
		strings.Repeat("ax 0 1\n", 571), strings.Repeat("x", 1<<20), impl.NetText(longestNet())}
	for _, text := range netTexts {
		text = wantNetText(netOf(text))
		for i := range len(text) {
			texts = append(texts, text[:i], text[:i]+"#"+text[i+1:], text[:i]+"\n"+text[i:])
		}
		texts = append(texts, text)
	}
	for _, text := range texts {
		got, ok := impl.ReadNet(text)
		want, wantOk := wantReadNet(text)
		if ok != wantOk || !sameNet(got, want) {
			t.Fatalf("ReadNet(%q) = %v", text, ok)
		}
	}
	if !settled(before) {
		t.Fatal("goroutines before and after", before, runtime.NumGoroutine())
	}
}

// Calls at the same time do not disturb each other.
func TestReadNetsAtTheSameTime(t *testing.T) {
	before := runtime.NumGoroutine()
	nets := smallNets(12)
	faults := make([]string, len(nets))
	var group sync.WaitGroup
	for at, n := range nets {
		text := wantNetText(n)
		group.Go(func() {
			for range 20 {
				got, ok := impl.ReadNet(text)
				none, noneOk := impl.ReadNet("\n" + text)
				if !ok || !sameNet(got, n) || noneOk || !sameNet(none, impl.Net{}) {
					faults[at] = text
				}
			}
		})
	}
	group.Wait()
	for _, text := range faults {
		if text != "" {
			t.Fatalf("ReadNet(%q) at the same time as others", text)
		}
	}
	if !settled(before) {
		t.Fatal("goroutines before and after", before, runtime.NumGoroutine())
	}
}
