package tests

import (
	"fmt"
	"slices"
	"strings"
	"testing"

	"loop.example/g00872/impl"
)

// linkLines are lines of links, written out.
var linkLines = map[string]impl.Link{
	"ax 0 0": {Kind: ax}, "ax 0 1": {Kind: ax, B: 1}, "ax 1 0": {Kind: ax, A: 1}, "ax 47 46": {Kind: ax, A: 47, B: 46}, "ax 10 9": {Kind: ax, A: 10, B: 9},
	"cut 0 0": {Kind: cut}, "cut 0 1": {Kind: cut, B: 1}, "cut 3 2": {Kind: cut, A: 3, B: 2}, "cut 47 47": {Kind: cut, A: 47, B: 47}, "cut 40 39": {Kind: cut, A: 40, B: 39},
	"tensor 0 0 0": {Kind: tensor}, "tensor 0 1 2": {Kind: tensor, B: 1, C: 2}, "tensor 2 1 0": {Kind: tensor, A: 2, B: 1}, "tensor 47 46 45": {Kind: tensor, A: 47, B: 46, C: 45},
	"par 0 0 0": {Kind: par}, "par 0 1 2": {Kind: par, B: 1, C: 2}, "par 5 5 5": {Kind: par, A: 5, B: 5, C: 5}, "par 10 20 30": {Kind: par, A: 10, B: 20, C: 30}, "par 0 0 47": {Kind: par, C: 47},
}

func TestLinesWrittenOut(t *testing.T) {
	for text, l := range linkLines {
		if got := impl.LinkText(l); got != text {
			t.Fatalf("LinkText(%+v) = %q, want %q", l, got, text)
		}
		checkReadLink(t, text, l, true)
		if !checkLink(t, l) || !checkLine(t, text) {
			t.Fatalf("the tests do not know the line %q", text)
		}
	}
}

// Every link that has a line is recovered from it.
func TestLinkFromItsLine(t *testing.T) {
	lines := map[int64]int{}
	for _, kind := range allKinds {
		for place := range int64(48 * 48 * 48) {
			l := impl.Link{Kind: kind, A: place % 48, B: place / 48 % 48, C: place / 48 / 48}
			if l.C > 0 && !hasWire(kind, "C") {
				break
			}
			text := impl.LinkText(l)
			if got, ok := impl.ReadLink(text); !ok || got != l {
				t.Fatalf("ReadLink(%q) = %+v, %v, want %+v", text, got, ok, l)
			}
			// The reference is slow.
			if place%7 == 0 && !checkLink(t, l) {
				t.Fatalf("%+v has no line", l)
			}
			lines[kind]++
		}
	}
	if lines[ax] != 48*48 || lines[cut] != 48*48 || lines[tensor] != 48*48*48 || lines[par] != 48*48*48 {
		t.Fatal("number of lines", lines)
	}
}

// Every number from below 0 to above 47 in every field, in links and in lines.
func TestLimitsOfWiresInLines(t *testing.T) {
	for _, kind := range allKinds {
		for _, name := range linkFields {
			values := slices.Clone(oddNumbers)
			for value := int64(-3); value <= 130; value++ {
				values = append(values, value)
			}
			for _, value := range values {
				l := impl.Link{Kind: kind, A: 1, B: 2, C: 3}
				if !hasWire(kind, "C") {
					l.C = 0
				}
				*linkField(&l, name) = value
				wantOk := value == 0
				if hasWire(kind, name) {
					wantOk = value >= 0 && value <= 47
					if line := filledLine(kind, name, fmt.Sprint(value)); checkLine(t, line) != wantOk {
						t.Fatalf("ReadLink(%q)", line)
					}
				}
				if checkLink(t, l) != wantOk || (impl.LinkText(l) != "") != wantOk {
					t.Fatalf("LinkText(%+v) = %q", l, impl.LinkText(l))
				}
			}
		}
	}
}

// A link of another kind has no line.
func TestLinesOfOtherKinds(t *testing.T) {
	for _, kind := range append(oddKinds, oddSymbols...) {
		if slices.Contains(allKinds, kind) {
			continue
		}
		for _, l := range []impl.Link{{Kind: kind}, {Kind: kind, A: 0, B: 1}, {Kind: kind, A: 0, B: 1, C: 2}, {Kind: kind, A: 47, B: 47, C: 47}, {Kind: kind, A: 48}, {Kind: kind, A: -1, B: -1, C: -1}} {
			if checkLink(t, l) || impl.LinkText(l) != "" {
				t.Fatalf("LinkText(%+v) = %q", l, impl.LinkText(l))
			}
		}
	}
}

// All extremes of all fields at once.
func TestExtremeLinks(t *testing.T) {
	extremes := append([]int64{0, 47}, oddNumbers...)
	count := 0
	for kind := int64(-1); kind <= 6; kind++ {
		for _, a := range extremes {
			for _, b := range extremes {
				for _, c := range extremes {
					if checkLink(t, impl.Link{Kind: kind, A: a, B: b, C: c}) {
						count++
					}
				}
			}
		}
	}
	if count != 4+4+8+8 {
		t.Fatal("number of links with lines", count)
	}
}

// oddWires are words that are no number of a wire, or not written as the document wants it.
var oddWires = []string{
	"00", "01", "007", "047", "+0", "+1", "-0", "-1", "-01", "--1", "+-1", "48", "49", "50", "99", "100", "470", "0x1", "0X1", "0b1", "0o7", "1e1", "1.0", "1.", ".1", "1_0", "0_1", "_1", "1_", "1,", "(1)",
	"a", "A", "I", "l", "O", "~1", "#1",
	"256", "257", "4294967296", "4294967297", "-4294967296", "9223372036854775807", "9223372036854775808", "-9223372036854775808", "-9223372036854775809",
	"18446744073709551616", "18446744073709551617", "36893488147419103232", "340282366920938463463374607431768211456", "340282366920938463463374607431768211457", "99999999999999999999999999",
	strings.Repeat("9", 400), strings.Repeat("0", 400), strings.Repeat("0", 400) + "1",
	"\u0661", "\uff11", "1\u0300", "\u00b9", "1\x00", "\x001", "\x31\x80", "",
}

// Numbers that are not written as the document wants it, and numbers that no wire has.
func TestNumbersInNoLine(t *testing.T) {
	for _, number := range oddWires {
		for _, kind := range allKinds {
			for _, name := range linkFields {
				if hasWire(kind, name) {
					checkNoLines(t, filledLine(kind, name, number))
				}
			}
		}
	}
}

// oddSpaces stand between words where the document wants a single space.
var oddSpaces = []string{"", "  ", "   ", "\t", " \t", "\t ", "\n", "\n ", " \n", "\r", "\v", "\f", ", ", ",", "\u00a0", "\u2003", "\u0085", "_", "\x00", "\xff", "\x80"}

// Spaces, words and signs that are missing, superfluous or others, in the line of every kind.
func TestWordsInNoLine(t *testing.T) {
	for _, text := range []string{"ax 0 1", "cut 10 9", "tensor 0 1 2", "par 40 41 42", "ax 1 0", "cut 0 1", "par 0 1 2"} {
		words := strings.Fields(text)
		checkNoLines(t, " "+text, text+" ", "  "+text, text+"  ", "\t"+text, text+"\t", text+"\n", "\n"+text, text+"\r", text+"\n\n", text+"\r\n", text+"\x00", "\x00"+text, text+"\u00a0",
			"\u00a0"+text, "\ufeff"+text, text+"\v", text+",")
		checkNoLines(t, strings.ToUpper(text), strings.ToUpper(text[:1])+text[1:], text[1:], words[0]+"s"+text[len(words[0]):], words[0][:len(words[0])-1]+text[len(words[0]):])
		checkNoLines(t, text+" 0 0", text+" 0 1", text+" A", text+" "+text, text+" ax", text+"000", text+" -1", text+" #", "0 "+text, "wire "+text, "concl "+text)
		checkNoLines(t, strings.Join(words[1:], " "), words[0], words[0]+" ", words[0]+" "+words[1], words[0]+" "+words[1]+" ")
		if !hasWire(linkWords[words[0]], "C") {
			checkNoLines(t, text+" 0", text+" 1", text+" 47", text+" -1", text+" 00")
		} else {
			checkNoLines(t, strings.Join(words[:3], " "), strings.Join(words[:3], " ")+" ")
		}
		for n := 1; n < len(words); n++ {
			first, rest := strings.Join(words[:n], " "), strings.Join(words[n:], " ")
			for _, between := range oddSpaces {
				// Without a space, two numbers can be one.
				if between == "" {
					checkLine(t, first+rest)
				} else {
					checkNoLines(t, first+between+rest)
				}
			}
			checkLine(t, first+" 0 "+rest)
			checkLine(t, strings.Join(slices.Delete(slices.Clone(words), n, n+1), " "))
		}
	}
}

// Words of no kind.
func TestOtherTextsOfNoLine(t *testing.T) {
	checkNoLines(t,
		"", " ", "  ", "\t", "0", "1", "A", "0 1", "1 0 1", "1 0 1 2", "4 0 1 2", "ax", "cut", "tensor", "par", "wire", "concl", "wire A", "wire 0 1", "concl 0 1", "one", "bot 0", "with 0 1 2", "with 0 1 0 0",
		"plus 0 1 2", "swap 0 1 2", "con 0 1 2", "der 0 1", "prom 0 1",
		"axiom 0 1", "a 0 1", "x 0 1", "AX 0 1", "Ax 0 1", "aX 0 1", "cuts 0 1", "cu 0 1", "Cut 0 1", "CUT 0 1", "tens 0 1 2", "tensors 0 1 2", "Tensor 0 1 2", "times 0 1 2", "* 0 1 2", "| 0 1 2", "parr 0 1 2",
		"pa 0 1 2", "Par 0 1 2", "PAR 0 1 2", "paR 0 1 2",
		"ax A ~A", "ax A", "ax (0,1)", "ax 0,1", "ax 0, 1", "ax: 0 1", "ax 0 1;", "ax 0 1.", "ax\u00a00 1", "\u0430x 0 1", "c\u00fct 0 1", "p\xffr 0 1 2", "\xff", "\x00", "\u00e9", "ax 0 1\u2028", "ax0 1",
		"ax01", "par012", "par 012", "tensor 0 12",
	)
	for text := range linkLines {
		for _, kind := range []string{"ax", "cut", "tensor", "par", "with", ""} {
			words := strings.Fields(text)
			words[0] = kind
			checkLine(t, strings.Join(words, " "))
		}
	}
}

// A byte of a line is removed, doubled, replaced or added, at every place.
func TestChangedLines(t *testing.T) {
	found := map[bool]int{}
	for text := range linkLines {
		for i := range len(text) {
			changed := []string{text[:i], text[i:], text[:i] + text[i+1:], text[:i] + text[i:i+1] + text[i:], text[i:] + text[:i]}
			for _, c := range []string{" ", "\t", "\n", "0", "1", "4", "7", "8", "-", "+", "A", "~", "a", "x", "r", "\x80", "é"} {
				changed = append(changed, text[:i]+c+text[i+1:], text[:i]+c+text[i:])
			}
			for _, s := range changed {
				found[checkLine(t, s)]++
			}
		}
	}
	if found[true] < 300 || found[false] < 3000 {
		t.Fatal("too few changed lines", found)
	}
}

// All short texts of some alphabets, after the first letters of a line.
func TestShortLines(t *testing.T) {
	for alphabet, starts := range map[string][]string{
		"ax 01": {"", "a", "ax "}, "0147 8": {"ax ", "ax 4", "cut 47", "par 0 ", "tensor 1 4", "par 4"}, "cut 0": {"", "cu"}, "09 -\n": {"par 1 2 ", "tensor 3 4", "cut "}, "par 1": {"", "par "},
	} {
		for _, start := range starts {
			read := 0
			visitTexts(alphabet, 5, func(s string) {
				if checkLine(t, start+s) {
					read++
				}
			})
			if read == 0 && start != "" {
				t.Fatalf("no lines that begin with %q, of %q", start, alphabet)
			}
		}
	}
}

// Every byte before, in and after a line.
func TestAllBytesInLines(t *testing.T) {
	for b := range 256 {
		c := string([]byte{byte(b)})
		for _, pattern := range []string{"#", "ax 0 #", "ax # 1", "ax#0 1", "ax 0#1", "#ax 0 1", "ax 0 1#", "a# 0 1", "#x 0 1", "cut 4# 1", "cut 1 #4", "cut 1 4#", "par 0 1#2", "par 0 1 #", "par 0 1 2#",
			"pa# 0 1 2", "tensor# 0 1 2", "tensor 0#1#2", "tens#r 0 1 2"} {
			checkLine(t, strings.ReplaceAll(pattern, "#", c))
		}
	}
}

// Texts that are much too long are refused as well.
func TestLongLines(t *testing.T) {
	for _, c := range []string{"ax", "ax ", " ", "0", "0 ", " 0", "1", "9", "par 0 1 2", "par 0 1 2 ", "\n", "ax 0 1\n", "\xff", "é", "-", "+"} {
		long := strings.Repeat(c, 1<<16)
		for _, text := range []string{long, "ax" + long, "ax " + long, "ax 0 " + long, "ax 0 1" + long, "ax 0 1 " + long, "cut " + long + " 1", "par 0 1 2" + long, "par 0 " + long + " 2",
			"tensor 0 1 " + long, long + " 0 1", long + "ax 0 1"} {
			checkReadLink(t, text, impl.Link{}, false)
		}
	}
}
