package tests

import (
	"fmt"
	"slices"
	"strings"
	"testing"

	"loop.example/g00872/impl"
)

// wantSequentLines is SequentLines as the tests see it.
func wantSequentLines(list []impl.Step) string {
	out := ""
	all, _, _ := wantCheck(list)
	for k, q := range all {
		out += fmt.Sprintf("%d: %s\n", k, textOfForms(q.Forms))
	}
	return out
}

// wantOutline is Outline as the tests see it: the steps still to be written are on a stack.
func wantOutline(list []impl.Step) string {
	all, code, _ := wantCheck(list)
	if code != codeOk {
		return ""
	}
	out := ""
	type entry struct{ step, depth int64 }
	for stack := []entry{{int64(len(list)) - 1, 0}}; len(stack) > 0; {
		top := stack[len(stack)-1]
		stack = stack[:len(stack)-1]
		s := list[top.step]
		word := strings.Fields(layouts[s.Rule])[0]
		out += strings.Repeat(" ", int(2*top.depth)) + word + " " + textOfForms(all[top.step].Forms) + "\n"
		for _, premise := range []int64{s.B, s.A} {
			if premise >= 0 {
				stack = append(stack, entry{premise, top.depth + 1})
			}
		}
	}
	return out
}

// checkLines compares SequentLines and Outline with the expectation, and reports whether the list is a valid proof.
func checkLines(t *testing.T, list []impl.Step) bool {
	t.Helper()
	_, code, _ := wantCheck(list)
	lines, outline := wantSequentLines(list), wantOutline(list)
	if (lines != "") != (code == codeOk) || (outline != "") != (code == codeOk) {
		t.Fatalf("the tests expect %q and %q of%s", lines, outline, describe(list))
	}
	if got := impl.SequentLines(list); got != lines {
		t.Fatalf("SequentLines = %q, want %q of%s", got, lines, describe(list))
	}
	if got := impl.Outline(list); got != outline {
		t.Fatalf("Outline = %q, want %q of%s", got, outline, describe(list))
	}
	return code == codeOk
}

// lineCase is a proof as text, with its lines.
type lineCase struct{ text, lines, outline string }

// Proofs with every rule, written out.
func TestLinesOfProofs(t *testing.T) {
	for _, c := range []lineCase{
		{"ax A\n", "0: A, ~A\n", "ax A, ~A\n"},
		{"one\n", "0: 1\n", "one 1\n"},
		{"ax A\npar 0 0 1\n", "0: A, ~A\n1: (A|~A)\n", "par (A|~A)\n  ax A, ~A\n"},
		{"one\nbot 0\nswap 1 0 1\n", "0: 1\n1: 1, _\n2: _, 1\n", "swap _, 1\n  bot 1, _\n    one 1\n"},
		{"ax A\nax B\ntensor 0 1 0 0\n", "0: A, ~A\n1: B, ~B\n2: ~A, ~B, (A*B)\n", "tensor ~A, ~B, (A*B)\n  ax A, ~A\n  ax B, ~B\n"},
		// The premise A comes first, even if its step is the later one.
		{"ax A\nax B\ntensor 1 0 0 0\n", "0: A, ~A\n1: B, ~B\n2: ~B, ~A, (B*A)\n", "tensor ~B, ~A, (B*A)\n  ax B, ~B\n  ax A, ~A\n"},
		{"ax A\nax A\nwith 0 1 0 0\nplusl 2 0 ?B\nplusr 3 0 1\n",
			"0: A, ~A\n1: A, ~A\n2: ~A, (A&A)\n3: (A&A), (~A+?B)\n4: (~A+?B), (1+(A&A))\n",
			"plusr (~A+?B), (1+(A&A))\n  plusl (A&A), (~A+?B)\n    with ~A, (A&A)\n      ax A, ~A\n      ax A, ~A\n"},
		{"ax A\nder 0 1\nprom 1 0\nweak 2 A\nweak 3 A\ncon 4 2 3\n",
			"0: A, ~A\n1: A, ?~A\n2: ?~A, !A\n3: ?~A, !A, ?A\n4: ?~A, !A, ?A, ?A\n5: ?~A, !A, ?A\n",
			"con ?~A, !A, ?A\n  weak ?~A, !A, ?A, ?A\n    weak ?~A, !A, ?A\n      prom ?~A, !A\n        der A, ?~A\n          ax A, ~A\n"},
		{"ax A\nax A\nax B\ncut 0 1 1 0\ntensor 3 2 0 1\n",
			"0: A, ~A\n1: A, ~A\n2: B, ~B\n3: A, ~A\n4: ~A, B, (A*~B)\n",
			"tensor ~A, B, (A*~B)\n  cut A, ~A\n    ax A, ~A\n    ax A, ~A\n  ax B, ~B\n"},
		{"ax _\none\ncut 0 1 0 0\n", "0: _, 1\n1: 1\n2: 1\n", "cut 1\n  ax _, 1\n  one 1\n"},
	} {
		list, _ := wantReadProof(c.text)
		if got := impl.SequentLines(list); got != c.lines {
			t.Fatalf("SequentLines = %q, want %q of %q", got, c.lines, c.text)
		}
		if got := impl.Outline(list); got != c.outline {
			t.Fatalf("Outline = %q, want %q of %q", got, c.outline, c.text)
		}
		if !checkLines(t, list) {
			t.Fatalf("the tests do not know %q", c.text)
		}
	}
}

// The steps between a step and the last one count, not its index, and the outline of A ends before that of B begins.
func TestOutlineOfTree(t *testing.T) {
	text := "ax A\nax B\nax C\nax D\npar 2 0 1\npar 0 0 1\ntensor 3 1 0 1\ntensor 4 5 0 0\ntensor 7 6 0 1\n"
	list, _ := wantReadProof(text)
	want := "tensor ~D, (D*~B), (((C|~C)*(A|~A))*B)\n" +
		"  tensor ((C|~C)*(A|~A))\n    par (C|~C)\n      ax C, ~C\n    par (A|~A)\n      ax A, ~A\n" +
		"  tensor ~D, B, (D*~B)\n    ax D, ~D\n    ax B, ~B\n"
	if got := impl.Outline(list); got != want {
		t.Fatalf("Outline = %q, want %q", got, want)
	}
	checkLines(t, list)
}

// A chain of 40 steps has lines with 0 to 39 times two spaces.
func TestLinesOfLongestProofs(t *testing.T) {
	list := padded([]impl.Step{axiom(1)}, 40)
	lines := strings.Split(impl.SequentLines(list), "\n")
	outline := strings.Split(impl.Outline(list), "\n")
	if len(lines) != 41 || len(outline) != 41 || lines[40] != "" || outline[40] != "" {
		t.Fatal("numbers of lines", len(lines), len(outline))
	}
	for k := range 40 {
		q := []string{"A, ~A", "~A, A"}[k%2]
		if lines[k] != fmt.Sprint(k)+": "+q {
			t.Fatalf("the line %d is %q", k, lines[k])
		}
		word := "swap "
		if k == 0 {
			word = "ax "
		}
		if want := strings.Repeat("  ", 39-k) + word + q; outline[39-k] != want {
			t.Fatalf("the line %d of the outline is %q, want %q", 39-k, outline[39-k], want)
		}
	}
	if !checkLines(t, list) || checkLines(t, padded(list, 41)) {
		t.Fatal("the tests do not know the limit of steps")
	}
}

// Valid proofs with every rule: as many lines as steps, and the words and sequents of the steps.
func TestLinesOfSomeProofs(t *testing.T) {
	words := map[string]int{}
	for _, list := range someProofs() {
		if !checkLines(t, list) {
			t.Fatalf("no valid proof:%s", describe(list))
		}
		outline := impl.Outline(list)
		if strings.Count(outline, "\n") != len(list) || strings.Count(impl.SequentLines(list), "\n") != len(list) {
			t.Fatalf("numbers of lines of%s", describe(list))
		}
		for line := range strings.Lines(outline) {
			words[strings.Fields(line)[0]]++
		}
	}
	for _, rule := range allRules {
		if word := strings.Fields(layouts[rule])[0]; words[word] < 100 {
			t.Fatal("too few steps with the word", word, words[word])
		}
	}
	if len(words) != 14 {
		t.Fatal("words", words)
	}
}

// The outline of a part is what stands in the outline of the whole proof, without its indentation.
func TestOutlinesOfParts(t *testing.T) {
	for _, list := range someProofs()[:120] {
		whole := impl.Outline(list)
		for k := range int64(len(list)) {
			part, _ := impl.SubProof(list, k)
			checkLines(t, part)
			depth := 0
			for at := k; at != int64(len(list))-1; depth++ {
				at = int64(slices.IndexFunc(list, func(s impl.Step) bool { return s.A == at || s.B == at }))
			}
			inner := ""
			for line := range strings.Lines(impl.Outline(part)) {
				inner += strings.Repeat("  ", depth) + line
			}
			if !strings.Contains("\n"+whole, "\n"+inner) {
				t.Fatalf("the outline of the part %d is not in %q", k, whole)
			}
		}
	}
}

// Lists that are no valid proof have no lines.
func TestNoLines(t *testing.T) {
	seed := uint64(20)
	none := [][]impl.Step{
		nil, {}, {{}}, {axiom(1), axiom(2)}, {axiom(11)}, {axiom(1), step(par, 0, -1, 0, 0)}, {axiom(1), step(par, 1, -1, 0, 1)}, {axiom(1), step(tensor, 0, 0, 0, 0)},
		{step(par, 0, -1, 0, 1)}, {axiom(1), axiom(1), step(cut, 0, 1, 0, 0)}, {axiom(1), step(prom, 0, -1, 0, 0)}, {axiom(bangs(24)...), step(der, 0, -1, 0, 0)},
		padded([]impl.Step{axiom(1)}, 41), make([]impl.Step, 40), make([]impl.Step, 1000), slices.Repeat([]impl.Step{axiom(1)}, 40),
		{{Rule: 15, A: -1, B: -1}}, {step(one, -1, -1, 0, 0), step(bot, 0, -1, 0, 0), step(bot, 0, -1, 0, 0)},
	}
	for _, list := range none {
		if checkLines(t, list) || impl.SequentLines(list) != "" || impl.Outline(list) != "" {
			t.Fatalf("lines of%s", describe(list))
		}
	}
	for count := range 41 {
		checkLines(t, plainSteps(count, &seed))
	}
	valid, visited := 0, 0
	for n, list := range someProofs() {
		if n%40 == 0 || n < 26 {
			changedSteps(list, func(changed []impl.Step) {
				// A seventh of the copies is enough.
				if visited++; visited%7 == 0 {
					if checkLines(t, changed) {
						valid++
					}
					checkList(t, changed)
				}
			})
		}
	}
	if valid < 100 || visited < 10000 {
		t.Fatal("too few lists", valid, visited)
	}
}
