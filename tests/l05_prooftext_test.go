package tests

import (
	"fmt"
	"slices"
	"strings"
	"testing"

	"loop.example/g00872/impl"
)

// ones is the text of count steps RuOne.
func ones(count int) string { return strings.Repeat("one\n", count) }

func TestExamplesOfProofTexts(t *testing.T) {
	list := []impl.Step{axiom(1), axiom(11, 2, 18, -3), step(tensor, 0, 1, 0, 1), step(weak, 2, -1, 0, 0, 13), step(swap, 3, -1, 0, 2)}
	text := "ax A\nax (B*?~C)\ntensor 0 1 0 1\nweak 2 1\nswap 3 0 2\n"
	if got := impl.ProofText(list); got != text {
		t.Fatalf("ProofText = %q, want %q", got, text)
	}
	checkReadProof(t, text, list, 0)
	checkList(t, list)
	if checkProofText(t, text) != 0 {
		t.Fatal("the tests do not know", text)
	}
	checkReadProof(t, "ax A\n", []impl.Step{axiom(1)}, 0)
	checkReadProof(t, "one\none\n", []impl.Step{step(one, -1, -1, 0, 0), step(one, -1, -1, 0, 0)}, 0)
	checkReadProof(t, "ax A\npar 0 0 1\n", []impl.Step{axiom(1), step(par, 0, -1, 0, 1)}, 0)
}

// Every valid proof and every other list of plain steps is recovered from its text.
func TestProofFromItsText(t *testing.T) {
	lists := someProofs()
	seed := uint64(14)
	for count := 0; count <= 40; count++ {
		for range 5 {
			lists = append(lists, plainSteps(count, &seed))
		}
	}
	for _, s := range somePlainSteps() {
		lists = append(lists, []impl.Step{s}, []impl.Step{s, s})
	}
	owners := map[string][]impl.Step{}
	for _, list := range lists {
		checkList(t, list)
		text := impl.ProofText(list)
		if strings.Count(text, "\n") != len(list) {
			t.Fatalf("ProofText = %q of%s", text, describe(list))
		}
		if owner, ok := owners[text]; ok && !sameSteps(owner, list) {
			t.Fatalf("%q is the text of%s\nand of%s", text, describe(owner), describe(list))
		}
		owners[text] = list
	}
}

// The empty string is the text of no steps.
func TestTextOfNoSteps(t *testing.T) {
	for _, list := range [][]impl.Step{nil, {}, make([]impl.Step, 0, 5)} {
		if got := impl.ProofText(list); got != "" {
			t.Fatalf("ProofText = %q of no steps", got)
		}
	}
	if list, line := impl.ReadProof(""); len(list) != 0 || line != 0 {
		t.Fatal("ReadProof of the empty string", list, line)
	}
	for _, text := range []string{"\n", "\n\n", " ", " \n", "\t\n", "\r\n", "\x00", "\x00\n", "\ufeff", "\nax A\n"} {
		checkFault(t, text, 1)
	}
}

// A text has at most 40 steps.
func TestLimitOfStepsInTexts(t *testing.T) {
	seed := uint64(15)
	for count := 1; count <= 90; count++ {
		longest := slices.Repeat([]impl.Step{longestStep()}, count)
		for _, list := range [][]impl.Step{plainSteps(count, &seed), padded([]impl.Step{axiom(1)}, count), longest} {
			text := ""
			for _, s := range list {
				text += wantStepText(s) + "\n"
			}
			switch {
			case count <= 40:
				checkReadProof(t, text, list, 0)
			case len(text) <= 4000:
				checkFault(t, text, 41)
			default:
				checkFault(t, text, -1)
			}
			if got := impl.ProofText(list); (got == text) != (count <= 40) || (got == "") != (count > 40) {
				t.Fatalf("ProofText of %d steps = %q", count, got)
			}
			checkList(t, list)
		}
	}
	checkReadProof(t, ones(40), slices.Repeat([]impl.Step{step(one, -1, -1, 0, 0)}, 40), 0)
	checkFault(t, ones(41), 41)
	checkFault(t, ones(1000), 41)
	checkFault(t, ones(1001), -1)
	checkFault(t, ones(40)+"one", 41)
	checkFault(t, ones(39)+"one", 40)
	if got := impl.ProofText(make([]impl.Step, 100000)); got != "" {
		t.Fatalf("ProofText = %q", got)
	}
}

// filledTo returns a text that begins with start and has a number of bytes.
func filledTo(start, filling string, size int) string {
	return (start + strings.Repeat(filling, size))[:size]
}

// A text has at most 4000 bytes. No list of plain steps has a text of so many, so that the line of the fault shows the limit.
func TestLimitOfBytesInProofTexts(t *testing.T) {
	longest := impl.ProofText(slices.Repeat([]impl.Step{longestStep()}, 40))
	if len(longest) != 40*71 {
		t.Fatal("the longest text", len(longest))
	}
	for _, c := range []struct {
		start, filling string
		line           int64
	}{
		{"", "\n", 1}, {"", "x", 1}, {"", " ", 1}, {"", "one\n", 41}, {"ax A\n", "one\n", 41}, {"one\n", "\n", 2}, {"one\none\n", "0", 3}, {longest, "A", 41}, {longest, "\n", 41}, {longest, "bot 0\n", 41}, {ones(39), " ", 40},
		{ones(38) + "par\n", "one\n", 39}, {"weak 0 ", "!", 1}, {"one\nax ", "(", 2}, {"bot ", "0", 1}, {"ax A\nbot 0 \n", "one\n", 2},
	} {
		for size := 3990; size <= 4000; size++ {
			checkFault(t, filledTo(c.start, c.filling, size), c.line)
		}
		for _, size := range []int{4001, 4002, 4003, 4004, 4096, 8000, 1 << 16, 1 << 20} {
			checkFault(t, filledTo(c.start, c.filling, size), -1)
		}
	}
	// Also a text whose last byte alone is too many, after a whole line.
	checkFault(t, filledTo(longest, "A", 3999)+"\n", 41)
	checkFault(t, filledTo(longest, "A", 4000)+"\n", -1)
	checkFault(t, filledTo("", "A", 3999)+"\n", 1)
	checkFault(t, filledTo("", "A", 4000)+"\n", -1)
}

// A list with a step that is not plain has no text, wherever that step is.
func TestListsWithoutText(t *testing.T) {
	seed := uint64(16)
	for _, count := range []int{1, 2, 3, 10, 40} {
		list := plainSteps(count, &seed)
		for place := range count {
			visited := 0
			notPlain(list[place], func(s impl.Step) {
				if visited++; visited%(1+count/4) == 0 {
					changed := slices.Clone(list)
					changed[place] = s
					checkList(t, changed)
					if got := impl.ProofText(changed); got != "" {
						t.Fatalf("ProofText = %q of%s", got, describe(changed))
					}
				}
			})
		}
	}
	for _, list := range [][]impl.Step{{{}}, {axiom(1), {}}, {{}, axiom(1)}, {axiom(11)}, {axiom(1), step(par, -1, -1, 0, 1)}, make([]impl.Step, 40), make([]impl.Step, 41)} {
		if got := impl.ProofText(list); got != "" {
			t.Fatalf("ProofText = %q of%s", got, describe(list))
		}
	}
}

// faultyLines are lines that are not the text of a step.
var faultyLines = []string{
	"", " ", "one ", " one", "One", "ONE", "two", "par 0 0", "par 0 0 01", "par 0  0 1", "par 0 0 40", "par 0 0 -1", "par 0\t0 1", "bot 18446744073709551616", "ax", "ax (A -> B)", "ax ~~A", "ax A\r", "ax \xff", "one\x00",
}

// The line of the first fault, for a fault in every line and of every kind, alone and with others behind it.
func TestLineOfFirstFault(t *testing.T) {
	seed := uint64(17)
	for _, count := range []int{1, 2, 3, 7, 39, 40, 41, 42, 50} {
		lines := make([]string, count)
		for n := range lines {
			// Short steps, so that the text stays below the limit of bytes.
			lines[n] = wantStepText(plainStep([]int64{cut, par, one, bot, prom, swap}[choose(&seed, 6)], &seed))
		}
		for place := range count {
			for n, fault := range faultyLines {
				changed := slices.Clone(lines)
				changed[place] = fault
				want := int64(min(place, 40) + 1)
				text := strings.Join(changed, "\n") + "\n"
				checkFault(t, text, want)
				checkFault(t, text+"\n", want)
				later := place + 1 + choose(&seed, uint64(count))
				if later < count {
					changed[later] = faultyLines[(n+7)%len(faultyLines)]
					checkFault(t, strings.Join(changed, "\n")+"\n", want)
					checkFault(t, strings.Join(changed, "\n"), want)
				}
			}
		}
		for place := range count {
			// The last line has no newline, or the text ends within a line.
			text := strings.Join(lines[:place+1], "\n")
			checkFault(t, text, int64(min(place, 40)+1))
			checkFault(t, text[:len(text)-1], int64(min(place, 40)+1))
			checkFault(t, text+"\n\n", int64(min(place+1, 40)+1))
			checkFault(t, text+"\n ", int64(min(place+1, 40)+1))
			checkFault(t, text+" \n", int64(min(place, 40)+1))
			checkFault(t, "\n"+text+"\n", 1)
		}
	}
}

// The lines of faults, written out.
func TestFaultsInProofTexts(t *testing.T) {
	for text, line := range map[string]int64{
		"ax A\npar 0 0": 2, "ax A\npar 0 0 1": 2, "ax A": 1, "ax A\n\n": 2, "ax A\n\npar 0 0 1\n": 2, "\nax A\npar 0 0 1\n": 1, "ax A\npar 0 0 1\n\n": 3, "ax A\npar 0 0 1\n ": 3, "ax A\n par 0 0 1\n": 2,
		"ax A par 0 0 1\n": 1, "ax A\r\npar 0 0 1\r\n": 1, "ax A\n\rpar 0 0 1\n": 2, "ax A\rpar 0 0 1\n": 1, "ax A\vpar 0 0 1\n": 1, "ax A\u2028par 0 0 1\n": 1, "ax A\npar 0 0 1\nx": 3, "x\nax A\npar": 1, "ax a\nax b\nax c\n": 1,
		"ax A\nax a\nax b": 2, "one\none\none": 3, "one\none\nOne\n": 3, "one\none\n\x00": 3, "one\none\n\n\n\n": 3, "one\none\n\none\n": 3, "one\none\none\\n": 3, "ax A;par 0 0 1\n": 1,
		ones(39) + "x\n": 40, ones(40) + "x\n": 41, ones(40) + "\n": 41, ones(40) + "x": 41, ones(41) + "x\n": 41, ones(41) + "\n": 41, ones(38) + "x\n" + ones(5): 39, "x\n" + ones(60): 1, ones(39) + "\n" + ones(1): 40, ones(60) + "x": 41, ones(20) + "\n" + ones(30) + "x": 21,
		ones(39) + "one ": 40, ones(39) + "one\n ": 41,
	} {
		checkFault(t, text, line)
	}
}

// A byte of a text of several steps is removed, doubled, replaced or added, at every place.
func TestChangedProofTexts(t *testing.T) {
	seed := uint64(18)
	lines := map[int64]int{}
	texts := []string{ones(40), "ax A\npar 0 0 1\n", strings.Join(textOfEachRule(), "\n") + "\n"}
	for count := 1; count <= 5; count++ {
		texts = append(texts, wantProofText(plainSteps(count, &seed)))
	}
	for _, text := range texts {
		for i := range len(text) {
			changed := []string{text[:i], text[i:], text[:i] + text[i+1:], text[:i] + text[i:i+1] + text[i:], text[i:] + text[:i]}
			for _, c := range []string{"\n", " ", "0", "7", "~", "e", "\r", "\xc3"} {
				changed = append(changed, text[:i]+c+text[i+1:], text[:i]+c+text[i:])
			}
			for _, s := range changed {
				lines[checkProofText(t, s)]++
			}
		}
	}
	for line := int64(0); line <= 41; line++ {
		if lines[line] == 0 {
			t.Fatal("no text with the line", line, lines)
		}
	}
}

// All short texts of some alphabets.
func TestShortProofTexts(t *testing.T) {
	for alphabet, longest := range map[string]int{"one\n": 8, "axA \n": 7, "bot 0\n": 6} {
		read := 0
		visitTexts(alphabet, longest, func(s string) {
			if checkProofText(t, s) == 0 {
				read++
			}
		})
		if read < 2 {
			t.Fatalf("too few texts of %q", alphabet)
		}
	}
	for b := range 256 {
		c := string([]byte{byte(b)})
		for _, pattern := range []string{"#", "one#", "one#one\n", "one\n#", "one\n#\n", "#one\n", "ax A\npar 0#0 1\n", "ax #\n", "ax A\n#par 0 0 1\n", "ax A\npar 0 0 1#", "ax A\npar 0 0 #\n"} {
			checkProofText(t, strings.ReplaceAll(pattern, "#", c))
		}
	}
}

// The texts of the lists leave them as they are, and do not depend on what is behind them.
func TestProofTextsChangeNothing(t *testing.T) {
	for _, list := range memoryLists() {
		kept, changed := guardedSteps(list)
		checkList(t, kept)
		checkLines(t, kept)
		if changed() {
			t.Fatalf("an argument is changed:%s", describe(list))
		}
	}
}

// memoryLists are lists of correct, plain and other steps.
func memoryLists() [][]impl.Step {
	seed := uint64(19)
	out := listsOfSteps()
	for count := range 42 {
		out = append(out, plainSteps(count, &seed))
	}
	return append(out, []impl.Step{axiom(1), {}}, []impl.Step{{}, axiom(1)}, []impl.Step{step(weak, 0, -1, 0, 0, bangs(25)...)})
}

// What ReadProof returns belongs to the caller alone, each Form and the list, the capacity included.
func TestReadProofsUnshared(t *testing.T) {
	for _, list := range memoryLists() {
		text := wantProofText(list)
		if text == "" {
			continue
		}
		other, _ := impl.ReadProof(text)
		for k := range list {
			got, _ := impl.ReadProof(text)
			overwrite(got[k].Form)
			got[k].Form = list[k].Form
			if !sameSteps(got, list) {
				t.Fatalf("the step %d of ReadProof shares memory, in%s", k, describe(list))
			}
		}
		got, _ := impl.ReadProof(text)
		for whole, n := got[:cap(got)], 0; n < cap(got); n++ {
			overwrite(whole[n].Form)
			whole[n] = step(spare, spare, spare, 1, 2)
		}
		if !sameSteps(other, list) {
			t.Fatalf("two readings of %q share memory", text)
		}
		checkReadProof(t, text, list, 0)
	}
}

// Equal lines do not yield one Form.
func TestEqualLinesUnshared(t *testing.T) {
	text := strings.Repeat("ax (A*B)\n", 3)
	got, _ := impl.ReadProof(text)
	for k := range got {
		overwrite(got[k].Form)
		for later := k + 1; later < len(got); later++ {
			wantList(t, fmt.Sprint("the Form of the step ", later), got[later].Form, []int64{11, 1, 2})
		}
	}
	checkReadProof(t, text, slices.Repeat([]impl.Step{axiom(11, 1, 2)}, 3), 0)
}
