package tests

import (
	"fmt"
	"slices"
	"strings"
	"testing"

	"loop.example/g00872/impl"
)

func TestConstantOfNetTexts(t *testing.T) {
	if impl.MaxNetText != 4000 {
		t.Fatal("MaxNetText", impl.MaxNetText)
	}
}

// textsOfNets are nets with their texts, written out: without wires, with cuts, without conclusions, with conclusions and links in any order.
var textsOfNets = map[string]string{
	"; ; ":                                       "concl\n",
	"A, ~A; ax 0 1; 0 1":                         "wire A\nwire ~A\nax 0 1\nconcl 0 1\n",
	"A, ~A; ax 0 1; 1 0":                         "wire A\nwire ~A\nax 0 1\nconcl 1 0\n",
	"A, ~A; ax 1 0; 0 1":                         "wire A\nwire ~A\nax 1 0\nconcl 0 1\n",
	"~H, H; ax 0 1; 1 0":                         "wire ~H\nwire H\nax 0 1\nconcl 1 0\n",
	"(A*B), (~A|~B); ax 0 1; 0 1":                "wire (A*B)\nwire (~A|~B)\nax 0 1\nconcl 0 1\n",
	"A, ~A; ax 0 1, cut 0 1; ":                   "wire A\nwire ~A\nax 0 1\ncut 0 1\nconcl\n",
	"A, ~A; cut 1 0, ax 0 1; ":                   "wire A\nwire ~A\ncut 1 0\nax 0 1\nconcl\n",
	"A, ~A, (A|~A); ax 0 1, par 0 1 2; 2":        "wire A\nwire ~A\nwire (A|~A)\nax 0 1\npar 0 1 2\nconcl 2\n",
	"(~A*A), A, ~A; tensor 2 1 0, ax 2 1; 0":     "wire (~A*A)\nwire A\nwire ~A\ntensor 2 1 0\nax 2 1\nconcl 0\n",
	"A, ~A, A, ~A; ax 0 1, ax 2 3, cut 1 2; 3 0": "wire A\nwire ~A\nwire A\nwire ~A\nax 0 1\nax 2 3\ncut 1 2\nconcl 3 0\n",
	"A, ~A, B, ~B, (A*B), (~A|~B); ax 0 1, ax 2 3, tensor 0 2 4, par 1 3 5; 5 4":       "wire A\nwire ~A\nwire B\nwire ~B\nwire (A*B)\nwire (~A|~B)\nax 0 1\nax 2 3\ntensor 0 2 4\npar 1 3 5\nconcl 5 4\n",
	"A, ~A, B, ~B, (A*B), (~A|~B); par 1 3 5, cut 4 5, ax 0 1, tensor 0 2 4, ax 3 2; ": "wire A\nwire ~A\nwire B\nwire ~B\nwire (A*B)\nwire (~A|~B)\npar 1 3 5\ncut 4 5\nax 0 1\ntensor 0 2 4\nax 3 2\nconcl\n",
}

func TestNetTextsWrittenOut(t *testing.T) {
	for net, text := range textsOfNets {
		n := netOf(net)
		if got := impl.NetText(n); got != text {
			t.Fatalf("NetText = %q, want %q", got, text)
		}
		checkReadNet(t, text, n, true)
		if !checkNetTexts(t, n) || !checkAnyNetText(t, text) {
			t.Fatalf("the tests do not know the text %q", text)
		}
	}
}

// Every valid net is recovered from its text, and no two nets have the same text.
func TestNetFromItsText(t *testing.T) {
	owners := map[string]impl.Net{}
	cuts, open, shuffled := 0, 0, 0
	for _, n := range someNets() {
		if !checkNetTexts(t, n) {
			t.Fatalf("a net of the tests is not valid:%s", describeNet(n))
		}
		text := impl.NetText(n)
		if owner, ok := owners[text]; ok && !sameNet(owner, n) {
			t.Fatalf("%q is the text of%s\nand of%s", text, describeNet(owner), describeNet(n))
		}
		owners[text] = n
		cuts += strings.Count(text, "cut ")
		if strings.HasSuffix(text, "\nconcl\n") {
			open++
		}
		if !slices.IsSorted(n.Concl) {
			shuffled++
		}
	}
	if len(owners) < 400 || cuts < 200 || open < 5 || shuffled < 100 {
		t.Fatal("too few nets", len(owners), cuts, open, shuffled)
	}
}

// What AxiomNet, UnionNet, LinkNet and RenumberNet make is recovered from its text.
func TestMadeNetsFromTheirTexts(t *testing.T) {
	seed := uint64(92)
	recover := func(n impl.Net, ok bool) {
		t.Helper()
		if text := impl.NetText(n); ok {
			if got, read := impl.ReadNet(text); !read || !sameNet(got, n) {
				t.Fatalf("ReadNet(%q) = %v with%s", text, read, describeNet(got))
			}
		}
	}
	counts := map[string]int{}
	for range 300 {
		n, _ := impl.AxiomNet(multTree(1+2*choose(&seed, 3), &seed).list())
		recover(n, true)
		for range choose(&seed, 6) {
			other, _ := impl.AxiomNet(n.Wires[choose(&seed, uint64(len(n.Wires)))])
			if union, ok := impl.UnionNet(n, other); ok {
				n = union
				counts["UnionNet"]++
				recover(n, true)
			}
			for range choose(&seed, 8) {
				kind, i, j := allKinds[1+choose(&seed, 3)], int64(choose(&seed, 12)), int64(choose(&seed, 12))
				if linked, ok := impl.LinkNet(n, kind, i, j); ok {
					n = linked
					counts[fmt.Sprint("LinkNet ", kind)]++
					recover(n, true)
				}
			}
			moved, ok := impl.RenumberNet(n, somePlaces(len(n.Wires), &seed), somePlaces(len(n.Links), &seed))
			recover(moved, ok)
		}
	}
	if counts["UnionNet"] < 300 || counts["LinkNet 2"] < 30 || counts["LinkNet 3"] < 100 || counts["LinkNet 4"] < 100 {
		t.Fatal("too few nets", counts)
	}
}

// The conclusions may stand in every order, and the order is part of the text.
func TestOrdersOfConclusionsInTexts(t *testing.T) {
	start := "wire A\nwire ~A\nwire B\nwire ~B\nax 0 1\nax 3 2\nconcl"
	texts := map[string]bool{}
	eachPlaces(4, func(places []int64) {
		n := netOf("A, ~A, B, ~B; ax 0 1, ax 3 2; ")
		n.Concl = slices.Clone(places)
		text := start + fmt.Sprintf(" %d %d %d %d\n", places[0], places[1], places[2], places[3])
		if impl.NetText(n) != text {
			t.Fatalf("NetText = %q, want %q", impl.NetText(n), text)
		}
		checkReadNet(t, text, n, true)
		texts[text] = true
	})
	if len(texts) != 24 {
		t.Fatal("number of texts", len(texts))
	}
}

// The text of the empty net, and texts that are almost it.
func TestTextOfEmptyNet(t *testing.T) {
	for _, n := range []impl.Net{{}, {Wires: [][]int64{}, Links: []impl.Link{}, Concl: []int64{}}, {Wires: make([][]int64, 0, 5), Concl: make([]int64, 0, 5)}} {
		if got := impl.NetText(n); got != "concl\n" {
			t.Fatalf("NetText = %q of the empty net", got)
		}
	}
	checkReadNet(t, "concl\n", impl.Net{}, true)
	checkNoNetTexts(t, "", "\n", " ", "\n\n", "concl", "concl \n", " concl\n", "concl\n\n", "\nconcl\n", "concl\nconcl\n", "concl\n ", "concl\n\x00", "concl\r\n", "concl\t\n", "\tconcl\n", "Concl\n",
		"CONCL\n", "conc\n", "concls\n", "concl\nx", "concl 0\n", "concl -1\n", "concl \n\n", "\ufeffconcl\n", "c\n", "concl;\n", "\x00concl\n", "concl\n\x00\n", "concl\xff\n", "concl\\n")
}

// Texts of the form of a net's text, of which the net is not valid.
func TestTextsOfBrokenNets(t *testing.T) {
	plain := 0
	for _, n := range brokenNets() {
		if got := impl.NetText(n); got != "" {
			t.Fatalf("NetText = %q of%s", got, describeNet(n))
		}
		if hasPlainText(n) {
			plain++
			checkNoNetTexts(t, plainNetText(n))
		}
	}
	if plain < len(brokenTexts) {
		t.Fatal("too few texts", plain)
	}
}

// Every place of a net is changed, and with it its text.
func TestTextsOfChangedNets(t *testing.T) {
	found := map[bool]int{}
	for _, text := range netTexts {
		visited := 0
		changedNets(netOf(text), func(n impl.Net) {
			if visited++; visited%3 == 0 || len(n.Links) < 4 {
				found[checkNetTexts(t, n)]++
			}
		})
	}
	if found[true] < 150 || found[false] < 4000 {
		t.Fatal("too few nets", found)
	}
}

// longestNet has 48 wires with the longest formulas, and as many links as there can be.
func longestNet() impl.Net {
	n := axioms(slices.Repeat([]tree{meaningOf(wide(23, "*"))}, 24)...)
	for range 24 {
		n, _ = wantLinked(n, cut, 0, 1)
	}
	return n
}

// The longest texts of nets, and a net of 48 wires, are read; with one wire more, they are not.
func TestLimitOfWiresInTexts(t *testing.T) {
	longest := longestNet()
	text := impl.NetText(longest)
	if len(text) != 3178 || len(longest.Wires) != 48 || len(longest.Links) != 48 || !checkNetTexts(t, longest) {
		t.Fatal("the longest text", len(text))
	}
	for count := 22; count <= 30; count++ {
		text, concl := "", "concl"
		for range count {
			text += "wire A\nwire ~A\n"
		}
		for k := range count {
			text += fmt.Sprintf("ax %d %d\n", 2*k, 2*k+1)
			concl += fmt.Sprintf(" %d %d", 2*k, 2*k+1)
		}
		if checkAnyNetText(t, text+concl+"\n") != (count <= 24) {
			t.Fatal("ReadNet of axioms", count)
		}
		// With a wire and a link of it, which has 47 wires at least.
		more := fmt.Sprintf("par 0 1 %d\n", 2*count)
		concl = fmt.Sprintf("concl%s %d\n", strings.TrimPrefix(concl, "concl 0 1"), 2*count)
		if checkAnyNetText(t, strings.Replace(text, "ax", "wire (A|~A)\nax", 1)+more+concl) != (count <= 23) {
			t.Fatal("ReadNet of axioms and a par", count)
		}
	}
	for _, wire := range []string{"47", "46", "48", "49", "-1", "0"} {
		full := impl.NetText(axioms(slices.Repeat([]tree{leaf(1)}, 24)...))
		for _, old := range []string{" 47\nconcl", " 47\n"} {
			if ok := checkAnyNetText(t, strings.Replace(full, old, " "+wire+old[3:], 1)); ok != (wire == "47") {
				t.Fatal("ReadNet of a net of 48 wires, of which one is", wire)
			}
		}
	}
}

// A text has at most 4000 bytes. No valid net has a text of so many, so that the limit is never the only reason.
func TestLimitOfBytesInNetTexts(t *testing.T) {
	long := impl.NetText(longestNet())
	for _, c := range [][2]string{{"", "\n"}, {"", "x"}, {"", " "}, {"", "concl\n"}, {"concl\n", "\n"}, {"concl\n", " "}, {"concl", " 0"}, {"", "wire A\n"}, {"wire A\nwire ~A\nax 0 1\nconcl 0 1", " "},
		{long, "A"}, {long, "\n"}, {long, "concl\n"}, {long[:len(long)-1], " "}, {long, "\x00"}, {"wire ", "!"}, {"wire ", "("}, {"ax ", "0"}} {
		for _, size := range []int{3999, 4000, 4001, 4002, 4096, 8000, 1 << 16, 1 << 20} {
			checkReadNet(t, filledTo(c[0], c[1], size), impl.Net{}, false)
			checkReadNet(t, filledTo(c[0], c[1], size-1)+"\n", impl.Net{}, false)
		}
	}
	// The text of a net, with so much before it, behind it or within.
	for _, text := range []string{"concl\n", "wire A\nwire ~A\nax 0 1\nconcl 0 1\n", long} {
		for _, size := range []int{4000, 4001} {
			for _, c := range []string{" ", "\n", "0", "#", "\x00"} {
				filling := strings.Repeat(c, size-len(text))
				checkReadNet(t, filling+text, impl.Net{}, false)
				checkReadNet(t, text+filling, impl.Net{}, false)
				checkReadNet(t, strings.Replace(text, "concl", "concl"+filling, 1), impl.Net{}, false)
				checkReadNet(t, text[:len(text)-1]+filling+"\n", impl.Net{}, false)
			}
		}
	}
}

// axiomText is the text of an axiom whose outputs have the texts of two formulas.
func axiomText(f, dual string) string {
	return "wire " + f + "\nwire " + dual + "\nax 0 1\nconcl 0 1\n"
}

// A formula on a wire has at most 24 symbols; with atoms, tensors and pars only, the longest one has 23.
func TestLimitOfFormulasOnWires(t *testing.T) {
	for size := 1; size <= 49; size += 2 {
		for _, sign := range []string{"*", "|"} {
			f := wide(size, sign)
			if checkAnyNetText(t, axiomText(f, meaningOf(f).dual().text())) != (size <= 23) {
				t.Fatalf("ReadNet of a net with %q", f)
			}
		}
	}
	for _, f := range []string{strings.Repeat("!", 23) + "A", "!" + wide(23, "*"), "?" + wide(23, "|"), strings.Repeat("!", 24) + "A", strings.Repeat("!", 200) + "A", wide(199, "*"), wide(23, "+"), wide(23, "&")} {
		checkNoNetTexts(t, axiomText(f, meaningOf(f).dual().text()), axiomText(f, f), "wire "+f+"\nconcl 0\n", "wire A\nwire ~A\nwire "+f+"\nax 0 1\nconcl 0 1 2\n")
	}
}

// Notations of a formula that are not its text, formulas of other fragments, and what is no formula.
func TestFormulasThatAreNoWires(t *testing.T) {
	for f, dual := range map[string]string{
		"~~A": "~A", "A": "~~~A", "~ A": "A", " A": "~A", "A ": "~A", "(A * B)": "(~A|~B)", "(A* B)": "(~A|~B)", "(A *B)": "(~A|~B)", "( A*B)": "(~A|~B)", "(A*B )": "(~A|~B)", "(A->B)": "(A*~B)",
		"(A -> B)": "(A*~B)", "(A*B)": "~(A*B)", "~(A|B)": "(A|B)", "~(A*B)": "(A*B)", "(~~A*B)": "(~A|~B)",
		"1": "_", "_": "1", "!A": "?~A", "?A": "!~A", "(A+B)": "(~A&~B)", "(A&B)": "(~A+~B)", "(A*1)": "(~A|_)", "(A|!B)": "(~A*?~B)",
		"": "", "a": "~a", "I": "~I", "A*B": "~A|~B", "(A*B": "(~A|~B)", "A,": "~A", "A A": "~A", "AA": "~A", "(A)": "(~A)", "0": "1", "-A": "A", "[1]": "[-1]", "\u0391": "~\u0391", "A\r": "~A\r", "A\x00": "~A",
		"A\t": "~A", "\tA": "~A", "A\u00a0": "~A", "A\xff": "~A",
	} {
		checkNoNetTexts(t, axiomText(f, dual), axiomText(dual, f))
	}
	checkNoNetTexts(t, "wire\nwire ~A\nax 0 1\nconcl 0 1\n", "wireA\nwire ~A\nax 0 1\nconcl 0 1\n", "Wire A\nwire ~A\nax 0 1\nconcl 0 1\n", "wires A\nwire ~A\nax 0 1\nconcl 0 1\n",
		"wire A ~A\nax 0 1\nconcl 0 1\n", "wire 0 A\nwire 1 ~A\nax 0 1\nconcl 0 1\n", "A\n~A\nax 0 1\nconcl 0 1\n", "wire A, ~A\nax 0 1\nconcl 0 1\n")
	if !checkAnyNetText(t, axiomText("A", "~A")) {
		t.Fatal("an axiom of A")
	}
}

// Numbers of conclusions and of links that are not written as the document wants it.
func TestNumbersInNoNetText(t *testing.T) {
	for _, number := range oddWires {
		checkNoNetTexts(t,
			"wire A\nwire ~A\nax 0 1\nconcl 0 "+number+"\n", "wire A\nwire ~A\nax 0 1\nconcl "+number+" 1\n", "wire A\nwire ~A\nax 0 1\nconcl "+number+" 0 1\n", "wire A\nwire ~A\nax 0 1\nconcl 0 1 "+number+"\n",
			"wire A\nwire ~A\nax 0 1\nconcl 0 "+number+" 1\n",
			"concl "+number+"\n", "wire A\nwire ~A\nax 0 "+number+"\nconcl 0 1\n", "wire A\nwire ~A\nax "+number+" 0\nconcl 0 1\n", "wire A\nwire ~A\nax 0 1\ncut "+number+" 1\nconcl\n",
			"wire A\nwire ~A\nwire (A|~A)\nax 0 1\npar 0 1 "+number+"\nconcl 2\n", "wire A\nwire ~A\nax 0 1\ncut 0 1\nconcl "+number+"\n",
		)
	}
	for _, between := range oddSpaces {
		for _, text := range []string{"wire A\nwire ~A\nax 0 1\nconcl 0#1\n", "wire A\nwire ~A\nax 0 1\nconcl#0 1\n", "wire A\nwire ~A\nax 0#1\nconcl 0 1\n", "wire A\nwire ~A\nax#0 1\nconcl 0 1\n",
			"wire A\nwire#~A\nax 0 1\nconcl 0 1\n", "wire#A\nwire ~A\nax 0 1\nconcl 0 1\n"} {
			checkNoNetTexts(t, strings.ReplaceAll(text, "#", between))
			if !checkAnyNetText(t, strings.ReplaceAll(text, "#", " ")) {
				t.Fatalf("%q is the text of no net", text)
			}
		}
	}
}

// eachLines calls visit with every text of at most longest of the lines.
func eachLines(lines []string, longest int, visit func(string)) {
	texts := []string{""}
	for size := 0; size <= longest; size++ {
		var longer []string
		for _, text := range texts {
			visit(text)
			for _, line := range lines {
				longer = append(longer, text+line)
			}
		}
		texts = longer
	}
}

// All texts of at most five of some lines, and how many of them are texts of nets.
func TestTextsOfFiveLines(t *testing.T) {
	for _, c := range []struct {
		lines []string
		want  int
	}{
		// An axiom has 8 texts; with a cut there are 2 orders of the wires and of the links, and each link can be turned around.
		{[]string{"wire A\n", "wire ~A\n", "ax 0 1\n", "ax 1 0\n", "cut 0 1\n", "cut 1 0\n", "concl\n", "concl 0 1\n", "concl 1 0\n", "concl 0\n"}, 1 + 8 + 16},
		// The line of the conclusions is there as a whole, and without its newline.
		{[]string{"wire A\n", "wire ~A\n", "ax 0 1\n", "cut 0 1\n", "concl\n", "concl 0 1\n", "\n", " \n", "concl 0 1", "wire ~~A\n"}, 1 + 2 + 2 + 4},
		// Pieces of lines: only the text of the empty net is so short.
		{[]string{"wire B", "\n", "wire ~B", "ax 0 1\n", "concl", " 1", " 0"}, 1},
	} {
		count := 0
		eachLines(c.lines, 5, func(text string) {
			if checkAnyNetText(t, text) {
				count++
			}
		})
		if count != c.want {
			t.Fatalf("%d texts of nets, of the lines %q, want %d", count, c.lines, c.want)
		}
	}
}

// Lines that are missing, superfluous, empty, without newline or in another order, in the texts of many nets.
func TestLinesOfNetTexts(t *testing.T) {
	found := map[bool]int{}
	for _, n := range smallNets(9) {
		text := wantNetText(n)
		lines := strings.SplitAfter(text, "\n")
		lines = lines[:len(lines)-1]
		last := len(lines) - 1
		checkNoNetTexts(t, text[:len(text)-1], text+"\n", "\n"+text, text+" ", text+text, text+"x", text[1:], strings.ReplaceAll(text, "\n", "\r\n"), strings.ReplaceAll(text, "\n", "\r"),
			strings.ToUpper(text), text+"concl\n", "concl\n"+text, strings.ReplaceAll(text, "\n", " \n"), strings.ReplaceAll(text, "\n", "\n "), text[:len(text)-1]+" \n")
		join := func(parts ...[]string) string { return strings.Join(slices.Concat(parts...), "") }
		// The conclusions stand in one line, which is the last one.
		checkNoNetTexts(t, join(lines[:last]), join(lines, lines[last:]), join(lines[:last], []string{"concl\n"}, lines[last:]), join(lines, []string{"concl\n"}))
		if last > 0 {
			checkNoNetTexts(t, join(lines[last:], lines[:last]), join(lines[:last-1], lines[last:], lines[last-1:last]))
		}
		for at, wire := range n.Concl {
			split := strings.Fields(lines[last])
			checkNoNetTexts(t, join(lines[:last])+strings.Join(split[:at+1], " ")+"\n"+fmt.Sprint("concl ", wire, "\n"), join(lines[:last])+strings.Join(split[:at+1], " ")+"\n"+strings.Join(split[at+1:], " ")+"\n")
		}
		for place := range lines {
			for _, line := range []string{"\n", " \n", "concl\n", "wire \n", "wire A*\n", "ax 0\n", "x\n", "#\n", "ax 0 1", "\x00\n", "one\n"} {
				checkNoNetTexts(t, join(lines[:place], []string{line}, lines[place:]))
				if line != lines[place] {
					checkNoNetTexts(t, join(lines[:place], []string{line}, lines[place+1:]))
				}
			}
			// Each wire and link is needed once, but two equal wires or links may stand in either order.
			checkNoNetTexts(t, join(lines[:place], lines[place+1:]), join(lines[:place], lines[place:place+1], lines[place:]))
			checkNoNetTexts(t, strings.TrimSuffix(join(lines[:place+1]), "\n")+join(lines[place+1:]))
			for other := range lines {
				changed := slices.Clone(lines)
				changed[place], changed[other] = changed[other], changed[place]
				found[checkAnyNetText(t, join(changed))]++
				if strings.Fields(lines[place])[0] == "wire" && strings.Fields(lines[other])[0] != "wire" {
					checkNoNetTexts(t, join(changed))
				}
			}
		}
	}
	if found[true] < 1000 || found[false] < 1000 {
		t.Fatal("too few texts", found)
	}
}

// A byte of a text is removed, doubled, replaced or added, at every place.
func TestChangedNetTexts(t *testing.T) {
	found := map[bool]int{}
	for _, n := range smallNets(7) {
		text := wantNetText(n)
		for i := range len(text) {
			changed := []string{text[:i], text[i:], text[:i] + text[i+1:], text[:i] + text[i:i+1] + text[i:], text[i:] + text[:i]}
			for _, c := range []string{"\n", " ", "0", "1", "2", "~", "B", "*", "|", "x", "\r", "\xc3"} {
				changed = append(changed, text[:i]+c+text[i+1:], text[:i]+c+text[i:])
			}
			for _, s := range changed {
				found[checkAnyNetText(t, s)]++
			}
		}
	}
	if found[true] < 1000 || found[false] < 10000 {
		t.Fatal("too few texts", found)
	}
}

// Every byte in every place of short texts, and all short texts of some letters.
func TestAllBytesInNetTexts(t *testing.T) {
	for b := range 256 {
		c := string([]byte{byte(b)})
		for _, pattern := range []string{"#", "concl#", "concl\n#", "#concl\n", "co#cl\n", "concl#\n", "wire #\nwire ~A\nax 0 1\nconcl 0 1\n", "wire#A\nwire ~A\nax 0 1\nconcl 0 1\n",
			"wire A\nwire #A\nax 0 1\nconcl 0 1\n", "wire A\nwire ~A#\nax 0 1\nconcl 0 1\n", "wire A\nwire ~A\n#x 0 1\nconcl 0 1\n", "wire A\nwire ~A\nax # 1\nconcl 0 1\n", "wire A\nwire ~A\nax 0#1\nconcl 0 1\n",
			"wire A\nwire ~A\nax 0 1#\nconcl 0 1\n", "wire A\nwire ~A\nax 0 1#concl 0 1\n", "wire A\nwire ~A\nax 0 1\nconcl # 1\n", "wire A\nwire ~A\nax 0 1\nconcl#0 1\n", "wire A\nwire ~A\nax 0 1\nconcl 0#1\n",
			"wire A\nwire ~A\nax 0 1\nconcl 0 1#\n", "wire A\nwire ~A\nax 0 1\nconcl 0 1#", "wire A\nwire ~A\nax 0 1\nconcl 0 1\n#"} {
			checkAnyNetText(t, strings.ReplaceAll(pattern, "#", c))
		}
	}
	for alphabet, longest := range map[string]int{"concl\n": 6, "01 \n": 6, "ax 0\n": 5} {
		for _, start := range []string{"", "concl", "wire A\nwire ~A\nax 0 1\nconcl", "wire A\nwire ~A\nax"} {
			visitTexts(alphabet, longest, func(s string) { checkAnyNetText(t, start+s) })
		}
	}
}
