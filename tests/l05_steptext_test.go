package tests

import (
	"fmt"
	"math"
	"strings"
	"testing"

	"loop.example/g00872/impl"
)

func TestConstantOfProofTexts(t *testing.T) {
	if impl.MaxProofText != 4000 {
		t.Fatal("MaxProofText", impl.MaxProofText)
	}
}

// stepTexts are the texts of the table, written out.
func stepTexts() map[string]impl.Step {
	return map[string]impl.Step{
		"ax A": axiom(1), "ax ~H": axiom(-8), "ax 1": axiom(13), "ax _": axiom(14), "ax (A*?~B)": axiom(11, 1, 18, -2), "ax ((A|B)+(!1&_))": axiom(15, 12, 1, 2, 16, 17, 13, 14),
		"cut 0 1 2 3": step(cut, 0, 1, 2, 3), "cut 39 38 37 36": step(cut, 39, 38, 37, 36), "tensor 4 5 6 7": step(tensor, 4, 5, 6, 7), "with 10 9 8 7": step(with, 10, 9, 8, 7),
		"par 0 0 1": step(par, 0, -1, 0, 1), "par 1 0 0": step(par, 1, -1, 0, 0), "con 11 12 13": step(con, 11, -1, 12, 13), "swap 30 20 10": step(swap, 30, -1, 20, 10),
		"one": step(one, -1, -1, 0, 0), "bot 0": step(bot, 0, -1, 0, 0), "bot 39": step(bot, 39, -1, 0, 0),
		"plusl 1 2 A": step(plusL, 1, -1, 2, 0, 1), "plusl 0 0 1": step(plusL, 0, -1, 0, 0, 13), "plusr 2 1 (A|~A)": step(plusR, 2, -1, 1, 0, 12, 1, -1),
		"prom 3 4": step(prom, 3, -1, 4, 0), "der 4 3": step(der, 4, -1, 3, 0), "weak 5 ?A": step(weak, 5, -1, 0, 0, 18, 1), "weak 1 1": step(weak, 1, -1, 0, 0, 13),
	}
}

func TestTextsOfRules(t *testing.T) {
	rules := map[int64]bool{}
	for text, s := range stepTexts() {
		if got := impl.StepText(s); got != text || !impl.PlainStep(s) {
			t.Fatalf("StepText(%+v) = %q, want %q", s, got, text)
		}
		checkReadStep(t, text, s, true)
		if !checkStep(t, s) || !checkStepText(t, text) {
			t.Fatalf("the tests do not know the step %q", text)
		}
		rules[s.Rule] = true
	}
	if len(rules) != 14 {
		t.Fatal("rules", rules)
	}
}

// A plain step is recovered from its text, and no two steps have the same text.
func TestStepFromItsText(t *testing.T) {
	steps := somePlainSteps()
	for _, tr := range someTrees() {
		steps = append(steps, axiom(tr.list()...), step(plusL, 0, -1, 39, 0, tr.list()...), step(plusR, 10, -1, 9, 0, tr.list()...), step(weak, 1, -1, 0, 0, tr.list()...))
	}
	some := []int64{0, 1, 9, 10, 11, 20, 39}
	for _, rule := range []int64{cut, tensor, with, par, con, swap} {
		for n := range len(some) * len(some) * len(some) * len(some) {
			b := some[n/7%7]
			if !hasWord(rule, "B") {
				b = -1
			}
			steps = append(steps, step(rule, some[n%7], b, some[n/49%7], some[n/343]))
		}
	}
	owners := map[string]impl.Step{}
	for _, s := range steps {
		if !checkStep(t, s) {
			t.Fatalf("%+v is not plain", s)
		}
		text := impl.StepText(s)
		if owner, ok := owners[text]; ok && !sameStep(owner, s) {
			t.Fatalf("%+v and %+v have the text %q", owner, s, text)
		}
		owners[text] = s
	}
}

// Every index from below 0 to above 39 in every field, in steps and in texts.
func TestLimitsOfIndices(t *testing.T) {
	seed := uint64(12)
	for _, rule := range allRules {
		base := plainStep(rule, &seed)
		for _, name := range fieldNames {
			for value := int64(-3); value <= 130; value++ {
				s := base
				*fieldOf(&s, name) = value
				wantOk := value == otherwise(name)
				if hasWord(rule, name) {
					wantOk = value >= 0 && value <= 39
					text := filledLayout(rule, name, fmt.Sprint(value))
					if _, ok := impl.ReadStep(text); ok != wantOk || checkStepText(t, text) != wantOk {
						t.Fatalf("ReadStep(%q) = %v", text, ok)
					}
				}
				if checkStep(t, s) != wantOk || impl.PlainStep(s) != wantOk {
					t.Fatalf("PlainStep(%+v) = %v", s, impl.PlainStep(s))
				}
			}
		}
	}
}

// A formula has at most 24 symbols.
func TestLimitOfFormulasInSteps(t *testing.T) {
	for size := 1; size <= 30; size++ {
		text := strings.Repeat("!", size-1) + "A"
		for words, s := range map[string]impl.Step{
			"ax ": axiom(bangs(size)...), "weak 39 ": step(weak, 39, -1, 0, 0, bangs(size)...),
			"plusl 0 39 ": step(plusL, 0, -1, 39, 0, bangs(size)...), "plusr 39 0 ": step(plusR, 39, -1, 0, 0, bangs(size)...),
		} {
			want := words + text
			if size > 24 {
				want = ""
				checkRefused(t, words+text)
			}
			if impl.StepText(s) != want || checkStep(t, s) != (size <= 24) {
				t.Fatalf("StepText of %d symbols = %q, want %q", size, impl.StepText(s), want)
			}
		}
	}
	if text := impl.StepText(longestStep()); len(text) != 70 || !checkStep(t, longestStep()) {
		t.Fatal("the longest text", len(text), text)
	}
	wideText := wide(23, "|")
	checkReadStep(t, "ax "+wideText, axiom(meaningOf(wideText).list()...), true)
	checkReadStep(t, "ax !"+wideText, axiom(meaningOf("!"+wideText).list()...), true)
	checkRefused(t, "ax "+wide(25, "|"), "weak 0 "+wide(25, "&"), "ax !!"+wideText, "plusl 0 0 "+wide(199, "*"), "ax "+strings.Repeat("!", 199)+"A", "ax "+strings.Repeat("!", 200)+"A")
}

// One field of a plain step has a value that is not allowed there; then it has no text, alone or in a list.
func TestStepsThatAreNotPlain(t *testing.T) {
	seed := uint64(13)
	for _, rule := range allRules {
		for range 3 {
			visited := 0
			notPlain(plainStep(rule, &seed), func(s impl.Step) {
				visited++
				if checkStep(t, s) || impl.PlainStep(s) || impl.StepText(s) != "" {
					t.Fatalf("StepText(%+v) = %q", s, impl.StepText(s))
				}
				if got := impl.ProofText([]impl.Step{s}); got != "" {
					t.Fatalf("ProofText(%+v) = %q", s, got)
				}
			})
			if visited < 100 {
				t.Fatal("too few steps that are not plain", visited)
			}
		}
	}
	for _, s := range []impl.Step{{}, {Rule: impl.RuOne}, {Rule: impl.RuOne, A: -1}, {Rule: impl.RuOne, B: -1}, {Rule: impl.RuPar, J: 1}, {Rule: impl.RuAx, Form: []int64{1}}} {
		if checkStep(t, s) {
			t.Fatalf("%+v is plain", s)
		}
	}
	// An empty Form may be nil or not.
	if s := step(par, 0, -1, 0, 1, []int64{}...); !checkStep(t, s) || impl.StepText(s) != "par 0 0 1" {
		t.Fatal("an empty Form", impl.StepText(s))
	}
}

// A plain step need not be correct in a proof.
func TestPlainStepsThatAreNotCorrect(t *testing.T) {
	for text, s := range map[string]impl.Step{
		"swap 0 1 0": step(swap, 0, -1, 1, 0), "par 5 3 3": step(par, 5, -1, 3, 3), "con 0 39 39": step(con, 0, -1, 39, 39), "cut 7 7 39 39": step(cut, 7, 7, 39, 39), "prom 39 39": step(prom, 39, -1, 39, 0),
	} {
		checkReadStep(t, text, s, true)
		checkStep(t, s)
		if impl.ValidProof([]impl.Step{axiom(1), s}) {
			t.Fatalf("%q is correct", text)
		}
	}
}

// Numbers that are not written as the document wants it, and numbers that no step has.
func TestNumbersInTextsOfNoStep(t *testing.T) {
	numbers := []string{
		"00", "01", "007", "039", "+0", "+1", "-0", "-1", "-01", "--1", "+-1", "40", "41", "99", "100", "390", "0x1", "0X1", "0b1", "0o7", "1e1", "1.0", "1.", ".1", "1_0", "0_1", "_1", "1_", "1,", "(1)", "a", "A", "I", "l", "O", "~1",
		"256", "257", "4294967296", "4294967297", "-4294967296", "9223372036854775807", "9223372036854775808", "-9223372036854775808", "-9223372036854775809",
		"18446744073709551616", "18446744073709551617", "36893488147419103232", "340282366920938463463374607431768211456", "340282366920938463463374607431768211457", "99999999999999999999999999", strings.Repeat("9", 400), strings.Repeat("0", 400), strings.Repeat("0", 400) + "1",
		"\u0661", "\uff11", "1\u0300", "\u00b9", "1\x00", "\x001", "\x31\x80",
	}
	for _, number := range numbers {
		for rule := range layouts {
			for _, name := range fieldNames {
				if hasWord(rule, name) {
					checkRefused(t, filledLayout(rule, name, number))
				}
			}
		}
	}
}

// Spaces, words and signs that are missing, superfluous or others, in the text of every rule.
func TestWordsInTextsOfNoStep(t *testing.T) {
	for _, text := range textOfEachRule() {
		words := strings.Fields(text)
		checkRefused(t, " "+text, text+" ", "  "+text, text+"  ", "\t"+text, text+"\t", text+"\n", "\n"+text, text+"\r", text+"\n\n", text+"\r\n", text+"\x00", "\x00"+text, text+"\u00a0", "\u00a0"+text, "\ufeff"+text, text+"\v", text+",")
		checkRefused(t, strings.ToUpper(words[0])+text[len(words[0]):], strings.ToUpper(words[0][:1])+text[1:], text[1:], words[0]+"s"+text[len(words[0]):], words[0][:len(words[0])-1]+text[len(words[0]):])
		checkRefused(t, text+" 0", text+" 1", text+" A", text+" one", text+" "+text, text+"0 0", text+" -1", text+" #")
		checkRefused(t, strings.Join(words[1:], " "))
		for n := 1; n < len(words); n++ {
			first, rest := strings.Join(words[:n], " "), strings.Join(words[n:], " ")
			for _, between := range []string{"", "  ", "   ", "\t", " \t", "\t ", "\n", "\r", ", ", ",", "\u00a0", "\u2003", "_", "\x00", " 0 0 0 0 ", " A "} {
				checkStepText(t, first+between+rest)
			}
			checkRefused(t, first+"  "+rest, first+"\t"+rest, first+"\n"+rest, first+" \t"+rest, first+"\u00a0"+rest, first+" 0 0 0 0 "+rest, first+" A "+rest, first, first+" ")
			checkStepText(t, strings.Join(append(append([]string{}, words[:n]...), words[n+1:]...), " "))
			checkStepText(t, first+" 0 "+rest)
		}
		for n := 2; n < len(words); n++ {
			changed := strings.Fields(text)
			changed[n-1], changed[n] = changed[n], changed[n-1]
			checkStepText(t, strings.Join(changed, " "))
		}
		checkRefused(t, strings.Join(words[:len(words)-1], " "))
	}
}

// Words of no rule, and texts of other rules' fields.
func TestOtherTextsOfNoStep(t *testing.T) {
	checkRefused(t,
		"", " ", "  ", "\t", "0", "1", "A", "ax", "ax ", "cut", "tensor", "par", "bot", "with", "plusl", "plusr", "prom", "der", "weak", "con", "swap", "one ", "one 0", "one A", "one one", " one",
		"axiom A", "a A", "x A", "AX A", "Ax A", "aX A", "ax A A", "ax AA", "ax A 0", "ax 0 A", "ax 0", "ax -1", "ax I", "ax a", "ax ()", "ax (A*B", "ax A*B", "ax (A*B))", "ax A,", "ax A, B",
		"plus 0 0 A", "plusL 0 0 A", "plusR 0 0 A", "plusl 0 A", "plusl 0 0", "plusl A 0 0", "plusl 0 0 0 A", "plusr 0 0 A 0", "promote 0 0", "weaken 0 A", "weak A", "weak A 0", "weak 0 0 A", "weak 0", "con 0 0", "con 0 0 0 0", "contract 0 0 1",
		"bot", "bot A", "bot 0 0", "bottom 0", "_", "_ 0", "1 0", "* 0 1 0 0", "tensor 0 1 0", "tensor 0 1 0 0 0", "cut 0 1", "cut 0 1 0", "with 0 1 0", "with 0 1 0 0 A", "with 0 1 0 0 0", "par 0 0", "par 0 0 1 0", "par 0 0 1 A", "par 0 -1 0 1", "par 0 0 -1 1",
		"swap 0 0", "swap 0 -1 0 1", "prom 0", "prom 0 0 0", "der 0", "der 0 0 0", "der 0 0 A", "exchange 0 0 1", "1", "14 0 0 1", "3 0 1 0 0", "ax 0 0 0 0 A", "ax -1 -1 0 0 A", "one -1 -1 0 0", "A ax", "0 bot", "é", "b\u00f6t 0", "bot\u00a00", "\xff", "ax \xff", "ax A\xff", "ax A\x80", "ax ~\u0391", "ax \u0391",
		// a notation of a formula that is not its text
		"ax ~~A", "ax (A->B)", "ax (A -> B)", "ax (A * B)", "ax ~ A", "ax ~(A*B)", "ax ~1", "ax ~_", "ax ! A", "ax ~!A", "ax (A* B)", "ax (A *B)", "ax ( A*B)", "ax (A*B )", "ax  A", "ax A ", "weak 0 ~~A", "weak 0 (A->B)", "plusl 0 0 (A -> B)", "plusr 0 0 ~?A", "weak 0 ~(A|B)",
	)
}

// A byte of a text is removed, doubled, replaced or added, at every place.
func TestChangedTextsOfSteps(t *testing.T) {
	read := 0
	for _, text := range append(textOfEachRule(), "ax A", "bot 9", "par 3 3 1", "weak 10 ~A", "plusl 39 0 _", "con 4 0 40", "cut 1 0 01 2", "one") {
		for i := range len(text) {
			changed := []string{text[:i], text[i:], text[:i] + text[i+1:], text[:i] + text[i:i+1] + text[i:], text[i:] + text[:i]}
			for _, c := range []string{" ", "\t", "\n", "0", "1", "3", "9", "-", "+", "A", "~", "(", "a", "l", "r", "\x80", "é"} {
				changed = append(changed, text[:i]+c+text[i+1:], text[:i]+c+text[i:])
			}
			for _, s := range changed {
				if checkStepText(t, s) {
					read++
				}
			}
		}
	}
	if read < 100 {
		t.Fatal("too few changed texts of steps", read)
	}
}

// All short texts of some alphabets, after the first letters of a rule.
func TestShortTextsOfSteps(t *testing.T) {
	for alphabet, starts := range map[string][]string{
		"one bt": {""}, "bot 01": {""}, "0134 -\n": {"bot", "der 1", "cut 2 3 4"}, "A~!1 (": {"ax", "weak 0", "ax ", "plusr 1 2"}, " 09+A": {"par ", "prom", "con 0 ", "weak "}, "alpusr 0": {"", "swap 1 2", "p"},
	} {
		for _, start := range starts {
			read := 0
			visitTexts(alphabet, 5, func(s string) {
				if checkStepText(t, start+s) {
					read++
				}
			})
			if start != "p" && start != "" && read == 0 {
				t.Fatalf("no texts that begin with %q, of %q", start, alphabet)
			}
		}
	}
}

// Every byte before, in and after the text of a step.
func TestAllBytesInSteps(t *testing.T) {
	for b := range 256 {
		c := string([]byte{byte(b)})
		for _, pattern := range []string{"#", "one#", "#one", "o#e", "bot #", "bot#0", "bot 1#", "bot #1", "par 0 1#2", "par 0 #", "par 0 1 #", "ax #", "ax#A", "ax A#", "ax ~#", "ax (A#B)", "weak 0#A", "plusl 0 0#A", "plusl # 0 A", "#ot 0", "plus# 0 0 A", "p#r 0 0 1"} {
			checkStepText(t, strings.ReplaceAll(pattern, "#", c))
		}
	}
}

// Texts that are much too long are refused as well.
func TestLongTextsOfSteps(t *testing.T) {
	for _, c := range []string{"one", "one ", " ", "0", "0 ", "ax A", "ax ", "A", "!", "(", "~", "9", "\n", "one\n", "\xff", "é"} {
		long := strings.Repeat(c, 1<<16)
		for _, text := range []string{long, "one" + long, "bot " + long, "ax " + long, "ax " + long + "A", "cut " + long, "par 0 0 1" + long, "par 0 0 1 " + long, "weak 0 " + long, "weak " + long + " A"} {
			checkReadStep(t, text, impl.Step{}, false)
		}
	}
}

// StepText and PlainStep leave the Form as it is, and do not look behind it.
func TestStepTextsChangeNothing(t *testing.T) {
	steps := somePlainSteps()
	for _, form := range invalidLists() {
		steps = append(steps, axiom(form...), step(par, 0, -1, 0, 1, form...), step(weak, 40, -1, 0, 0, form...))
	}
	for _, s := range steps {
		kept, changed := guardedStep(s)
		if checkStep(t, kept); changed() {
			t.Fatalf("the Form of %+v is changed", s)
		}
		if len(s.Form) > 0 && isForm(s.Form) {
			// The capacity continues the list as a longer formula would.
			whole := append([]int64{17}, s.Form...)
			kept.Form = whole[:1:len(whole)]
			checkStep(t, kept)
			wantList(t, "the capacity", whole[1:], s.Form)
		}
	}
}

// What ReadStep returns belongs to the caller alone.
func TestReadStepsUnshared(t *testing.T) {
	for _, s := range somePlainSteps() {
		text := wantStepText(s)
		first, _ := impl.ReadStep(text)
		second, _ := impl.ReadStep(text)
		overwrite(first.Form)
		if !sameStep(second, s) {
			t.Fatalf("two readings of %q share memory", text)
		}
		overwrite(second.Form)
		checkReadStep(t, text, s, true)
	}
}

// The extremes of every field at once.
func TestExtremeSteps(t *testing.T) {
	extremes := []int64{math.MinInt64, -1, 0, 39, 40, math.MaxInt64}
	plain := 0
	for rule := int64(-1); rule <= 16; rule++ {
		for n := range 6 * 6 * 6 * 6 {
			for _, form := range [][]int64{nil, {1}, {11, 1}} {
				if checkStep(t, step(rule, extremes[n%6], extremes[n/6%6], extremes[n/36%6], extremes[n/216], form...)) {
					plain++
				}
			}
		}
	}
	// Two values for each index that the text of a rule contains.
	if plain != 3*16+3*8+1+2+2*4+2*4+2+1 {
		t.Fatal("number of plain steps", plain)
	}
}
