package tests

import (
	"slices"
	"testing"

	"loop.example/g00872/impl"
)

// renumberCase is a net, the permutations, and the result, written out; an empty text stands for none.
type renumberCase struct {
	net          string
	wires, links []int64
	want         string
}

func TestRenumberedWrittenOut(t *testing.T) {
	one, joined := "A, ~A; ax 0 1; 0 1", "A, ~A, (A|~A); ax 0 1, par 0 1 2; 2"
	two := "A, ~A, B, ~B, (A*B); ax 0 1, ax 2 3, tensor 0 2 4; 3 4 1"
	for _, c := range []renumberCase{
		{"; ; ", nil, nil, "; ; "}, {one, []int64{0, 1}, []int64{0}, one}, {one, []int64{1, 0}, []int64{0}, "~A, A; ax 1 0; 1 0"}, {"A, ~A; ax 1 0; 0 1", []int64{1, 0}, []int64{0}, "~A, A; ax 0 1; 1 0"},
		{joined, []int64{0, 1, 2}, []int64{1, 0}, "A, ~A, (A|~A); par 0 1 2, ax 0 1; 2"}, {joined, []int64{1, 2, 0}, []int64{0, 1}, "(A|~A), A, ~A; ax 1 2, par 1 2 0; 0"},
		{joined, []int64{2, 0, 1}, []int64{1, 0}, "~A, (A|~A), A; par 2 0 1, ax 2 0; 1"}, {"A, ~A; ax 0 1, cut 1 0; ", []int64{1, 0}, []int64{1, 0}, "~A, A; cut 0 1, ax 1 0; "},
		{"A, ~A; ax 0 1, cut 0 1; ", []int64{1, 0}, []int64{0, 1}, "~A, A; ax 1 0, cut 1 0; "},
		{two, []int64{1, 2, 3, 4, 0}, []int64{0, 1, 2}, "(A*B), A, ~A, B, ~B; ax 1 2, ax 3 4, tensor 1 3 0; 4 0 2"}, {two, []int64{4, 3, 2, 1, 0}, []int64{1, 2, 0}, "(A*B), ~B, B, ~A, A; tensor 4 2 0, ax 4 3, ax 2 1; 1 0 3"},
		{one, nil, nil, ""}, {one, []int64{0, 1}, nil, ""}, {one, nil, []int64{0}, ""}, {one, []int64{0}, []int64{0}, ""}, {one, []int64{0, 1, 2}, []int64{0}, ""}, {one, []int64{0, 1}, []int64{0, 1}, ""},
		{one, []int64{1, 1}, []int64{0}, ""}, {one, []int64{0, 0}, []int64{0}, ""}, {one, []int64{1, 2}, []int64{0}, ""}, {one, []int64{-1, 0}, []int64{0}, ""}, {one, []int64{0, 1}, []int64{1}, ""}, {one, []int64{0, 1}, []int64{-1}, ""},
		{"; ; ", []int64{0}, nil, ""}, {"; ; ", nil, []int64{0}, ""}, {joined, []int64{0, 1}, []int64{0, 1, 2}, ""}, {joined, []int64{0, 1, 2}, []int64{0, 0}, ""}, {joined, []int64{0, 2, 2}, []int64{0, 1}, ""},
	} {
		got, ok := impl.RenumberNet(netOf(c.net), c.wires, c.links)
		want := impl.Net{}
		if c.want != "" {
			want = netOf(c.want)
		}
		if ok != (c.want != "") || !sameNet(got, want) {
			t.Fatalf("RenumberNet(%q, %v, %v) = %v with%s", c.net, c.wires, c.links, ok, describeNet(got))
		}
		checkRenumbered(t, netOf(c.net), c.wires, c.links)
	}
}

// checkUndone renumbers a net, and then with the inverse permutations, which restores it.
func checkUndone(t *testing.T, n impl.Net, wires, links []int64) {
	t.Helper()
	if !checkRenumbered(t, n, wires, links) {
		t.Fatalf("RenumberNet(%v, %v) has no result for%s", wires, links, describeNet(n))
	}
	there, _ := impl.RenumberNet(n, wires, links)
	back, ok := impl.RenumberNet(there, inverseOf(wires), inverseOf(links))
	if !ok || !sameNet(back, n) {
		t.Fatalf("RenumberNet with the inverse permutations = %v with%s\ninstead of%s", ok, describeNet(back), describeNet(n))
	}
	p, pOk := impl.ConclusionSeq(n)
	q, qOk := impl.ConclusionSeq(there)
	if pOk != qOk || !sameForms(p.Forms, q.Forms) {
		t.Fatalf("RenumberNet changes the conclusions from %v to %v", p.Forms, q.Forms)
	}
}

// Renumbering is undone by the inverse permutations; neither changes the conclusions, nor what is at the ends of a wire.
func TestRenumberedAndBack(t *testing.T) {
	seed := uint64(87)
	changed := 0
	for _, n := range someNets() {
		same, sameLinks := inOrder(len(n.Wires)), inOrder(len(n.Links))
		checkUndone(t, n, same, sameLinks)
		for range 3 {
			wires, links := somePlaces(len(n.Wires), &seed), somePlaces(len(n.Links), &seed)
			checkUndone(t, n, wires, links)
			checkUndone(t, n, wires, sameLinks)
			checkUndone(t, n, same, links)
			got, _ := impl.RenumberNet(n, wires, links)
			if !sameNet(got, n) {
				changed++
			}
			checkEndsRenumbered(t, n, got, wires, links)
		}
		if got, ok := impl.RenumberNet(n, same, sameLinks); !ok || !sameNet(got, n) {
			t.Fatalf("RenumberNet with its own numbers = %v with%s\ninstead of%s", ok, describeNet(got), describeNet(n))
		}
	}
	if changed < 1000 {
		t.Fatal("too few nets", changed)
	}
}

// checkEndsRenumbered compares the ends of the wires, and the kinds of the links, before and after.
func checkEndsRenumbered(t *testing.T, n, got impl.Net, wires, links []int64) {
	t.Helper()
	for old, wire := range wires {
		source, target := impl.SourceOf(n, int64(old)), impl.TargetOf(n, int64(old))
		if target >= 0 {
			target = links[target]
		}
		if impl.SourceOf(got, wire) != links[source] || impl.TargetOf(got, wire) != target {
			t.Fatalf("the wire %d, now %d, has other ends in%s\nthan in%s", old, wire, describeNet(got), describeNet(n))
		}
	}
	for _, kind := range allKinds {
		wantList(t, "LinksOfKind", impl.LinksOfKind(got, kind), slices.Sorted(slices.Values(moved(links, impl.LinksOfKind(n, kind)))))
	}
}

// Every permutation of the wires and links of the nets that are written out.
func TestRenumberedInEveryOrder(t *testing.T) {
	visited := 0
	for _, text := range netTexts {
		n := netOf(text)
		eachPlaces(len(n.Wires), func(wires []int64) {
			eachPlaces(len(n.Links), func(links []int64) {
				// With six wires and six links there are too many.
				if visited++; len(wires) < 6 || visited%97 == 0 {
					checkUndone(t, n, wires, links)
				}
			})
		})
	}
	if visited < 10000 {
		t.Fatal("too few permutations", visited)
	}
}

// eachPlaces calls visit with every permutation of the numbers below count.
func eachPlaces(count int, visit func([]int64)) {
	var lists [][]int64
	for _, number := range inOrder(count) {
		lists = append(lists, []int64{number})
	}
	eachOrder(lists, func(order [][]int64) { visit(slices.Concat(order...)) })
}

// Two renumberings have the effect of one.
func TestRenumberedTwice(t *testing.T) {
	seed := uint64(88)
	for _, n := range someNets() {
		wires, links := somePlaces(len(n.Wires), &seed), somePlaces(len(n.Links), &seed)
		again, againLinks := somePlaces(len(n.Wires), &seed), somePlaces(len(n.Links), &seed)
		first, _ := impl.RenumberNet(n, wires, links)
		second, ok := impl.RenumberNet(first, again, againLinks)
		once, onceOk := impl.RenumberNet(n, moved(again, wires), moved(againLinks, links))
		if !ok || !onceOk || !sameNet(second, once) {
			t.Fatalf("RenumberNet twice = %v with%s\ninstead of%s", ok, describeNet(second), describeNet(once))
		}
	}
}

// Lists that are no permutations: too short, too long, or with a number that occurs twice or that no wire or link has.
func TestRenumberedWithOtherLists(t *testing.T) {
	for n, net := range smallNets(9) {
		wires, links := inOrder(len(net.Wires)), inOrder(len(net.Links))
		slices.Reverse(wires)
		slices.Reverse(links)
		refuse := func(wires, links []int64) {
			t.Helper()
			if checkRenumbered(t, net, wires, links) {
				t.Fatalf("RenumberNet(%v, %v) has a result for%s", wires, links, describeNet(net))
			}
		}
		noPlaces(wires, func(list []int64) { refuse(list, links) })
		noPlaces(links, func(list []int64) { refuse(wires, list) })
		if n%9 == 0 {
			noPlaces(wires, func(list []int64) { noPlaces(links, func(other []int64) { refuse(list, other[:min(len(other), 9)]) }) })
		}
		if len(wires) != len(links) {
			refuse(links, wires)
			refuse(wires, wires)
			refuse(links, links)
		}
	}
}

// noPlaces calls visit with lists that are no permutation, although one is given.
func noPlaces(list []int64, visit func([]int64)) {
	count := int64(len(list))
	for at := range list {
		visit(slices.Delete(slices.Clone(list), at, at+1))
		for _, number := range append(oddNumbers, count, list[at]+1, list[at]-1, list[at]+1<<32, list[at]+256, list[(at+1)%len(list)]) {
			if other := slices.Clone(list); number != list[at] {
				other[at] = number
				visit(other)
			}
		}
		visit(slices.Insert(slices.Clone(list), at, list[at]))
	}
	for _, number := range append(oddNumbers, count, 0) {
		visit(append(slices.Clone(list), number))
	}
	visit(slices.Concat(list, list, []int64{0}))
	visit(make([]int64, 1000))
}
