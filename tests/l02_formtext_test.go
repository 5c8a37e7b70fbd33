package tests

import (
	"fmt"
	"math"
	"slices"
	"strings"
	"testing"

	"loop.example/g00872/impl"
)

// firstMisfit finds the index that ParseForm owes, without the limits: it goes through the bytes
// with a stack of the open parentheses. It returns -1 for a whole text.
func firstMisfit(s string) int64 {
	var open []string // for each open parenthesis, what may follow the operand that is being read
	operand, dash := false, false
	for i := range len(s) {
		c := s[i : i+1]
		last := len(open) - 1
		switch {
		case dash && c == ">":
			dash = false
		case dash:
			return int64(i)
		case c == " ", !operand && strings.Contains("~!?", c):
		case !operand && strings.Contains("1_ABCDEFGH", c):
			operand = true
		case !operand && c == "(":
			open = append(open, "*|+&-")
		case !operand || last < 0 || !strings.Contains(open[last], c):
			return int64(i)
		case c == ")":
			open = open[:last]
		default:
			open[last], operand, dash = ")", false, c == "-"
		}
	}
	if operand && len(open) == 0 {
		return -1
	}
	return int64(len(s))
}

// meaningOf returns the formula of a whole text of the liberal notation.
func meaningOf(s string) tree {
	t, _ := meaningAt(strings.ReplaceAll(s, " ", ""))
	return t
}

// meaningAt returns the formula at the beginning of s, and what follows it.
func meaningAt(s string) (tree, string) {
	units := map[byte]int64{'1': 13, '_': 14}
	switch c := s[0]; c {
	case '~':
		t, rest := meaningAt(s[1:])
		return t.dual(), rest
	case '!', '?':
		t, rest := meaningAt(s[1:])
		return unary(map[byte]int64{'!': 17, '?': 18}[c], t), rest
	case '1', '_':
		return leaf(units[c]), s[1:]
	case '(':
		a, rest := meaningAt(s[1:])
		if after, ok := strings.CutPrefix(rest, "->"); ok {
			b, rest := meaningAt(after)
			return binary(12, a.dual(), b), rest[1:]
		}
		op := map[byte]int64{'*': 11, '|': 12, '+': 15, '&': 16}[rest[0]]
		b, rest := meaningAt(rest[1:])
		return binary(op, a, b), rest[1:]
	default:
		return leaf(int64(c-'A') + 1), s[1:]
	}
}

// checkTexts compares what ReadForm and ParseForm return for s with the expectation.
func checkTexts(t *testing.T, s string) {
	t.Helper()
	at := firstMisfit(s)
	var want []int64
	canonical := false
	if at < 0 {
		whole := meaningOf(s)
		want, canonical = whole.list(), whole.text() == s
	}
	if len(want) > 24 {
		want, at = nil, int64(len(s))
	}
	if len(s) > 200 {
		want, at = nil, 0
	}
	checkParse(t, s, want, at)
	if !canonical {
		want = nil
	}
	got, ok := impl.ReadForm(s)
	if ok != (want != nil) || !slices.Equal(got, want) {
		t.Fatalf("ReadForm(%q) = %v, %v, want %v", s, got, ok, want)
	}
}

func checkParse(t *testing.T, s string, want []int64, wantAt int64) {
	t.Helper()
	got, at := impl.ParseForm(s)
	if at != wantAt || !slices.Equal(got, want) {
		t.Fatalf("ParseForm(%q) = %v, %d, want %v, %d", s, got, at, want, wantAt)
	}
}

// checkMisfits checks the index that ParseForm returns for each text.
func checkMisfits(t *testing.T, texts map[string]int64) {
	t.Helper()
	for s, at := range texts {
		checkParse(t, s, nil, at)
		if f, ok := impl.ReadForm(s); ok || len(f) != 0 {
			t.Fatalf("ReadForm(%q) = %v, %v", s, f, ok)
		}
	}
}

func TestConstantOfTexts(t *testing.T) {
	if impl.MaxFormText != 200 {
		t.Fatal("MaxFormText", impl.MaxFormText)
	}
}

func TestTextsOfSymbols(t *testing.T) {
	texts := map[int64]string{13: "1", 14: "_"}
	for n, letter := range []string{"A", "B", "C", "D", "E", "F", "G", "H"} {
		texts[int64(n)+1], texts[-int64(n)-1] = letter, "~"+letter
	}
	for symbol, text := range texts {
		if got := impl.FormText([]int64{symbol}); got != text {
			t.Fatalf("FormText([%d]) = %q, want %q", symbol, got, text)
		}
	}
	for op, text := range map[int64]string{11: "(A*~H)", 12: "(A|~H)", 15: "(A+~H)", 16: "(A&~H)"} {
		if got := impl.FormText([]int64{op, 1, -8}); got != text {
			t.Fatalf("FormText of operator %d = %q, want %q", op, got, text)
		}
	}
	if impl.FormText([]int64{17, 18, -1}) != "!?~A" || impl.FormText([]int64{11, 1, 18, -2}) != "(A*?~B)" {
		t.Fatal("FormText of formulas with one operand")
	}
	if got := impl.FormText([]int64{16, 17, 12, 13, 14, 15, 1, 11, -2, 3}); got != "(!(1|_)&(A+(~B*C)))" {
		t.Fatal("FormText of both operands", got)
	}
}

// A formula is recovered from its text, and the liberal notation accepts the text.
func TestFormulaFromItsText(t *testing.T) {
	owners := map[string][]int64{}
	for _, tr := range someTrees() {
		f, text := tr.list(), tr.text()
		if got := impl.FormText(f); got != text {
			t.Fatalf("FormText(%v) = %q, want %q", f, got, text)
		}
		got, ok := impl.ReadForm(text)
		if !ok || !slices.Equal(got, f) {
			t.Fatalf("ReadForm(%q) = %v, %v, want %v", text, got, ok, f)
		}
		checkParse(t, text, f, -1)
		if owner, ok := owners[text]; ok && !slices.Equal(owner, f) {
			t.Fatalf("%v and %v have the text %q", owner, f, text)
		}
		owners[text] = f
	}
}

// Every text of at most five bytes of this alphabet, and longer ones of a smaller alphabet.
func TestShortTexts(t *testing.T) {
	visitTexts("AHI~!(*->)_ \x00", 5, func(s string) { checkTexts(t, s) })
	visitTexts("B~(->)", 7, func(s string) { checkTexts(t, s) })
	visitTexts("1 ?+|&()-", 5, func(s string) { checkTexts(t, s) })
}

func visitTexts(alphabet string, longest int, visit func(string)) {
	texts := []string{""}
	for size := 0; ; size++ {
		for _, s := range texts {
			visit(s)
		}
		if size == longest {
			return
		}
		longer := make([]string, 0, len(texts)*len(alphabet))
		for _, s := range texts {
			for i := range len(alphabet) {
				longer = append(longer, s+alphabet[i:i+1])
			}
		}
		texts = longer
	}
}

// liberal writes t in the liberal notation, with spaces, signs of negation and arrows chosen by seed.
func liberal(t tree, seed *uint64) string {
	space := func() string { return strings.Repeat(" ", max(0, choose(seed, 5)-2)) }
	out := ""
	switch pick := choose(seed, 5); {
	case pick == 0 || t.symbol < 0:
		out = "~" + liberal(t.dual(), seed)
	case pick < 3 && t.symbol == 12:
		out = "(" + liberal(t.kids[0].dual(), seed) + "->" + liberal(t.kids[1], seed) + ")"
	case len(t.kids) == 2:
		out = "(" + liberal(t.kids[0], seed) + operatorSigns[t.symbol] + liberal(t.kids[1], seed) + ")"
	case len(t.kids) == 1:
		out = operatorSigns[t.symbol] + liberal(t.kids[0], seed)
	default:
		out = t.text()
	}
	return space() + out + space()
}

// choose returns a number below n that follows from seed.
func choose(seed *uint64, n uint64) int {
	*seed = *seed*6364136223846793005 + 1442695040888963407
	return int(*seed >> 33 % n)
}

func TestLiberalNotation(t *testing.T) {
	seed := uint64(2)
	inLimit, arrows := 0, 0
	for range 5 {
		for _, tr := range someTrees() {
			s := liberal(tr, &seed)
			if len(s) > 200 {
				checkParse(t, s, nil, 0)
				continue
			}
			checkParse(t, s, tr.list(), -1)
			inLimit++
			arrows += strings.Count(s, "->")
		}
	}
	if inLimit < 10000 || arrows < 3000 {
		t.Fatal("too few texts", inLimit, arrows)
	}
}

func TestNegationAndArrows(t *testing.T) {
	meanings := map[string][]int64{
		"~(A -> B)": {11, 1, -2}, "(A->B)": {12, -1, 2}, "(~A->~B)": {12, 1, -2},
		"~A": {-1}, "~~A": {1}, "~~~A": {-1}, " ~ ~A ": {1}, "~ A": {-1},
		"~1": {14}, "~_": {13}, "~~1": {13}, "~!A": {18, -1}, "~?~A": {17, 1}, "!~?A": {17, 17, -1}, "~!~A": {18, 1},
		"~(A*~B)": {12, -1, 2}, "~(A|B)": {11, -1, -2}, "~(A+B)": {16, -1, -2}, "~(A&B)": {15, -1, -2},
		"(~(A*B)+C)": {15, 12, -1, -2, 3}, "(A*~(B->C))": {11, 1, 11, 2, -3},
		"((A->B)->C)": {12, 11, 1, -2, 3}, "(A->(B->C))": {12, -1, 12, -2, 3}, "~((A->B)->C)": {11, 12, -1, 2, -3},
		"((A*B)->(C+1))": {12, 12, -1, -2, 15, 3, 13}, "((A->B)&C)": {16, 12, -1, 2, 3}, "!(A->_)": {17, 12, -1, 14},
		"(!A->?B)": {12, 18, -1, 18, 2}, "((A->1)*(_->A))": {11, 12, -1, 13, 12, 13, 1}, "~~(A->B)": {12, -1, 2},
		"  ( A  *B )  ": {11, 1, 2}, " ! ? ~ A ": {17, 18, -1}, "( ( A -> B ) | 1 )": {12, 12, -1, 2, 13}, " _ ": {14},
	}
	for s, want := range meanings {
		checkParse(t, s, want, -1)
		wantList(t, s, meaningOf(s).list(), want)
	}
}

func TestMisfits(t *testing.T) {
	checkMisfits(t, map[string]int64{
		// at the beginning
		"I": 0, "a": 0, ")": 0, "*": 0, "-": 0, ">": 0, "->": 0, "0": 0, "2": 0, "&A": 0, "\t": 0, "\x00": 0, "@": 0, "\nA": 0, ",": 0,
		// after spaces
		"  I": 2, "  ) ": 2, "   -": 3,
		// in the middle
		"(A B)": 3, "(*": 1, "(A)": 2, "()": 1, "(A*)": 3, "(A*B*C)": 4, "(A**B)": 3, "(I*A)": 1, "(A*I)": 3, "(A~B)": 2, "(A!B)": 2, "(A(B": 2,
		"!)": 1, "~)": 1, "~*": 1, "?->": 1, "!I": 1, "(A1": 2, "(A_B)": 2, "(AB)": 2, "(A * B C)": 7, "(A*B(": 4,
		// at the end
		"AA": 1, "A)": 1, "(A*B))": 5, "(A*B) C": 6, "A*B": 1, "A->B": 1, "A -": 2, "(A*B)*": 5, "A~": 1, "1 1": 2, "A B": 2, "A\x00": 1, "A\n": 1, "A ~ ": 2,
	})
}

func TestTextsThatEndEarly(t *testing.T) {
	for _, whole := range []string{"(A*~B)", "~((A -> B) & ! 1)", " ( ( _|?H ) -> ~ ~ C )", "!?~A"} {
		for end := range len(whole) {
			checkMisfits(t, map[string]int64{whole[:end]: int64(end)})
		}
	}
	checkMisfits(t, map[string]int64{"": 0, " ": 1, "     ": 5, "~": 1, "~ ": 2, "~~": 2, "!": 1, "(": 1, "(A": 2, "(A ": 3, "(A-": 3, "(A->": 4, "(A-> ": 5, "(A->B": 5, "((A*B)": 6})
}

func TestDashes(t *testing.T) {
	checkMisfits(t, map[string]int64{
		"(A-B)": 3, "(A- >B)": 3, "(A- B)": 3, "(A--B)": 3, "(A-)": 3, "(A-*B)": 3, "(A >B)": 3, "(A>B)": 2, "(A->>B)": 4, "(A->->B)": 4, "(A->-B)": 4,
		"(A->B->C)": 5, "(A->B*C)": 5, "(A*B->C)": 4, "(->B)": 1, "(A->)": 4, "~->": 1, "(A*->B)": 3, "(A->*B)": 4, "(A -\x00": 4,
	})
	checkParse(t, "(A ->B)", []int64{12, -1, 2}, -1)
	checkParse(t, "(A-> B)", []int64{12, -1, 2}, -1)
}

// Every byte at the beginning, in the middle and at the end of a text, alone and among spaces.
func TestAllBytes(t *testing.T) {
	for b := range 256 {
		c := string([]byte{byte(b)})
		for _, pattern := range []string{"#", "#A", " #", "A#", "A #", "~#", "(#", "(A#B)", "(A #B)", "(A-#B)", "(A*#)", "(A*B#", "(A*B #C", "(A->B)#"} {
			s := strings.ReplaceAll(pattern, "#", c)
			checkTexts(t, s)
			if b >= 128 {
				checkMisfits(t, map[string]int64{s: int64(strings.Index(pattern, "#"))})
			}
		}
	}
	checkMisfits(t, map[string]int64{"é": 0, "(A⊗B)": 2, "A\u00a0": 1, "(A*∀)": 3, "A\xc2": 1, "~\xff": 1, "\uff21": 0, "!\u00a0A": 1})
}

// A byte of a longer text is removed, doubled or replaced, at every place.
func TestChangedTexts(t *testing.T) {
	seed := uint64(3)
	for size := 1; size <= 24; size++ {
		s := liberal(grownTree(size, &seed), &seed)
		for i := range len(s) {
			checkTexts(t, s[:i]+s[i+1:])
			checkTexts(t, s[:i]+s[i:i+1]+s[i:])
			for _, c := range []string{" ", "A", "~", "(", ")", "*", "-", ">", "I", "\x80"} {
				checkTexts(t, s[:i]+c+s[i+1:])
				checkTexts(t, s[:i]+c+s[i:])
			}
		}
	}
}

// wide returns the text of a formula with count symbols, which is odd: operators of two operands and atoms.
func wide(count int, sign string) string {
	return strings.Repeat("(A"+sign, count/2) + "B" + strings.Repeat(")", count/2)
}

func TestLimitOfSymbolsInTexts(t *testing.T) {
	bang24 := strings.Repeat("!", 23) + "A"
	if got := impl.FormText(bangs(24)); got != bang24 {
		t.Fatal("FormText of 24 symbols", got)
	}
	if got := impl.FormText(bangs(25)); got != "" {
		t.Fatal("FormText of 25 symbols", got)
	}
	for _, s := range []string{bang24, "!" + wide(23, "*"), "?" + wide(23, "+"), wide(23, "&")} {
		if f, ok := impl.ReadForm(s); !ok || impl.FormText(f) != s {
			t.Fatalf("ReadForm(%q) = %v, %v", s, f, ok)
		}
		checkTexts(t, s)
		checkTexts(t, "~ "+s+" ")
	}
	long := []string{"!" + bang24, wide(25, "*"), wide(25, "->"), "!" + wide(25, "|"), "(" + bang24 + "*A)", "(A->" + bang24 + ")", strings.Repeat("!", 199) + "A", wide(99, "&")}
	for _, s := range long {
		for _, whole := range []string{s, "~" + s, "(" + s + "->A)", " " + s, s + "  "} {
			want := int64(len(whole))
			if want > 200 {
				want = 0
			}
			checkMisfits(t, map[string]int64{whole: want})
		}
	}
	// The notation itself has no limit of symbols: a byte that does not fit is found first.
	checkMisfits(t, map[string]int64{"!" + bang24 + ")": 25, "(" + bang24 + "*A*": 27, "!" + bang24 + " I": 26, "(" + bang24 + "*A": 27})
}

// The arrow and the two operands have at most 24 symbols in all; negation adds none.
func TestLimitOfArrows(t *testing.T) {
	for n := 1; n <= 24; n++ {
		for m := 1; m <= 24; m++ {
			a, b := strings.Repeat("?", n-1)+"A", strings.Repeat("!", m-1)+"~B"
			s := "~~(~" + a + " -> ~" + b + ")"
			checkTexts(t, s)
			if f, at := impl.ParseForm(s); (at == -1) != (n+m+1 <= 24) || at == -1 && len(f) != n+m+1 {
				t.Fatalf("ParseForm(%q) = %v, %d", s, f, at)
			}
		}
	}
}

func TestLimitOfBytes(t *testing.T) {
	texts := []string{"A", " A", "(A -> B)", wide(23, "*"), "!" + wide(23, "->"), "(A", "A)", "I", "", "(A-"}
	for i, s := range texts {
		texts[i] = s + strings.Repeat(" ", 200-len(s))
		texts = append(texts, strings.Repeat(" ", 200-len(s))+s)
	}
	for _, c := range "~( A!?" {
		texts = append(texts, strings.Repeat(string(c), 200), strings.Repeat(string(c), 199)+"A")
	}
	for _, s := range texts {
		if len(s) != 200 {
			t.Fatal("no text at the limit", len(s))
		}
		checkTexts(t, s)
		checkTexts(t, s[:199])
		checkMisfits(t, map[string]int64{s + " ": 0, " " + s: 0, s + "A": 0, "(" + s: 0, s + s: 0})
	}
	checkParse(t, strings.Repeat("~", 199)+"A", []int64{-1}, -1)
	checkParse(t, strings.Repeat("~", 198)+"A ", []int64{1}, -1)
	checkParse(t, strings.Repeat(" ", 199)+"A", []int64{1}, -1)
	checkParse(t, "A"+strings.Repeat(" ", 199), []int64{1}, -1)
	checkMisfits(t, map[string]int64{
		strings.Repeat("(", 200): 200, strings.Repeat("~", 200): 200, strings.Repeat("!", 199) + "A": 200,
		strings.Repeat(" ", 199) + "I": 199, strings.Repeat("A", 200): 1, strings.Repeat("I", 201): 0, strings.Repeat("(", 1<<20): 0,
	})
}

func TestTextsThatAreNotCanonical(t *testing.T) {
	for _, s := range []string{"(A * B)", " A", "A ", "~ A", "~~A", "~1", "~_", "~!A", "~(A*B)", "(A->B)", "(~A|B) ", "! A", "(A *B)", "(A* B)", "( A*B)", "(A*B )"} {
		if f, at := impl.ParseForm(s); at != -1 || !impl.ValidForm(f) {
			t.Fatalf("ParseForm(%q) = %v, %d", s, f, at)
		}
		if f, ok := impl.ReadForm(s); ok || len(f) != 0 {
			t.Fatalf("ReadForm(%q) = %v, %v", s, f, ok)
		}
	}
}

// comesBefore orders the lists of formulas as the document says.
func comesBefore(a, b []int64) bool {
	if len(a) != len(b) {
		return len(a) < len(b)
	}
	for i := range a {
		if a[i] != b[i] {
			return a[i] < b[i]
		}
	}
	return false
}

func TestFormBefore(t *testing.T) {
	lists := [][]int64{{-8}, {-1}, {1}, {8}, {13}, {14}, {17, -8}, {17, 14}, {18, -8}, {11, 1, -2}, {11, 1, 1}, {11, 2, -1}, {12, -8, -8}, {16, 1, 1}, {17, 17, 1}, bangs(23), bangs(24)}
	for i, a := range lists {
		for j, b := range lists {
			if got := impl.FormBefore(a, b); got != (i < j) {
				t.Fatalf("FormBefore(%v, %v) = %v", a, b, got)
			}
		}
	}
	trees := someTrees()
	for i, a := range trees {
		for _, b := range []tree{trees[(i*7+3)%len(trees)], trees[(i+1)%len(trees)], a, a.dual()} {
			if got, want := impl.FormBefore(a.list(), b.list()), comesBefore(a.list(), b.list()); got != want {
				t.Fatalf("FormBefore(%v, %v) = %v", a.list(), b.list(), got)
			}
		}
	}
}

func TestSubforms(t *testing.T) {
	for _, tr := range someTrees() {
		f := tr.list()
		var want [][]int64
		for _, part := range tr.parts() {
			list := part.list()
			if !slices.ContainsFunc(want, func(w []int64) bool { return slices.Equal(w, list) }) {
				want = append(want, list)
			}
		}
		slices.SortFunc(want, func(a, b []int64) int {
			if comesBefore(a, b) {
				return -1
			}
			return 1
		})
		if got := impl.SubformsOf(f); !slices.EqualFunc(got, want, slices.Equal[[]int64]) {
			t.Fatalf("SubformsOf(%v) = %v, want %v", f, got, want)
		}
	}
	if got := fmt.Sprint(impl.SubformsOf([]int64{12, 11, 1, -1, 11, 1, -1})); got != "[[-1] [1] [11 1 -1] [12 11 1 -1 11 1 -1]]" {
		t.Fatal("SubformsOf with equal parts", got)
	}
	if got := impl.SubformsOf(bangs(24)); len(got) != 24 || !slices.Equal(got[0], []int64{1}) || !slices.Equal(got[23], bangs(24)) {
		t.Fatal("SubformsOf at the limit", got)
	}
}

// Overwriting one formula of a result changes neither the others nor the argument.
func TestSubformsUnshared(t *testing.T) {
	for _, tr := range someTrees() {
		f, changed := guarded(tr.list())
		want := impl.SubformsOf(f)
		for i := range want {
			got := impl.SubformsOf(f)
			overwrite(got[i])
			got[i] = want[i]
			if changed() || !slices.EqualFunc(got, want, slices.Equal[[]int64]) {
				t.Fatalf("SubformsOf(%v) shares the formula %d", tr.list(), i)
			}
		}
	}
}

func TestArrow(t *testing.T) {
	trees := someTrees()
	for i, a := range trees {
		b := trees[(i*7+3)%len(trees)]
		want := binary(12, a.dual(), b).list()
		if len(want) > 24 {
			want = nil
		}
		got, ok := impl.ArrowOf(a.list(), b.list())
		if ok != (want != nil) || !slices.Equal(got, want) {
			t.Fatal("ArrowOf", a.list(), b.list(), got, ok)
		}
		joined, okJoined := impl.Joined(impl.OpPar, impl.DualOf(a.list()), b.list())
		if ok != okJoined || !slices.Equal(got, joined) {
			t.Fatal("ArrowOf is not what Joined returns", a.list(), b.list())
		}
	}
	for n := 1; n <= 24; n++ {
		if got, ok := impl.ArrowOf(bangs(n), bangs(12)); ok != (n <= 11) || !ok && len(got) != 0 {
			t.Fatal("ArrowOf at the limit", n, got, ok)
		}
	}
}

func TestArrowUnshared(t *testing.T) {
	a, changedA := guarded([]int64{17, 2})
	b, changedB := guarded([]int64{-3})
	first, _ := impl.ArrowOf(a, b)
	second, _ := impl.ArrowOf(a, b)
	overwrite(first)
	if changedA() || changedB() {
		t.Fatal("ArrowOf changes or shares an argument")
	}
	overwrite(a)
	overwrite(b)
	wantList(t, "second result", second, []int64{12, 18, -2, -3})
}

func TestSymbolCount(t *testing.T) {
	for _, tr := range someTrees() {
		f := tr.list()
		counts := map[int64]int64{}
		for _, symbol := range f {
			counts[symbol]++
		}
		for symbol := int64(-20); symbol <= 20; symbol++ {
			if got := impl.SymbolCount(f, symbol); got != counts[symbol] {
				t.Fatalf("SymbolCount(%v, %d) = %d", f, symbol, got)
			}
		}
		for _, symbol := range oddSymbols {
			if got := impl.SymbolCount(f, symbol); got != 0 {
				t.Fatalf("SymbolCount(%v, %d) = %d", f, symbol, got)
			}
		}
	}
	if impl.SymbolCount(bangs(24), 17) != 23 {
		t.Fatal("SymbolCount at the limit")
	}
}

// Every function has its result for what is no formula, and does not panic.
func TestNoFormulaInTexts(t *testing.T) {
	check := func(f []int64) {
		if impl.FormText(f) != "" || len(impl.SubformsOf(f)) != 0 {
			t.Fatal("result of no formula", f)
		}
		for _, symbol := range append([]int64{1, 11, 17, 0}, f...) {
			if got := impl.SymbolCount(f, symbol); got != -1 {
				t.Fatal("SymbolCount", f, symbol, got)
			}
		}
		for _, pair := range [][2][]int64{{f, {1}}, {{1}, f}, {f, f}, {f, bangs(24)}, {bangs(24), f}} {
			if impl.FormBefore(pair[0], pair[1]) {
				t.Fatal("FormBefore", pair)
			}
			if got, ok := impl.ArrowOf(pair[0], pair[1]); ok || len(got) != 0 {
				t.Fatal("ArrowOf", pair, got, ok)
			}
		}
	}
	for _, f := range invalidLists() {
		check(f)
	}
	shortLists(func(f []int64) {
		if !isForm(f) {
			check(f)
		}
	})
}

// The texts that functions return are turned into numbers, so that they can be compared.
func bytesOf(text string) []int64 {
	var out []int64
	for i := range len(text) {
		out = append(out, int64(text[i]))
	}
	return out
}

func TestTextArgumentsUnchangedAndUnshared(t *testing.T) {
	checkUnshared(t, map[string]func([]int64) []int64{
		"FormText":    func(f []int64) []int64 { return bytesOf(impl.FormText(f)) },
		"FormBefore":  func(f []int64) []int64 { impl.FormBefore(f, []int64{1}); impl.FormBefore([]int64{1}, f); return nil },
		"SubformsOf":  func(f []int64) []int64 { return slices.Concat(impl.SubformsOf(f)...) },
		"ArrowOf":     func(f []int64) []int64 { a, _ := impl.ArrowOf(f, f); return a },
		"SymbolCount": func(f []int64) []int64 { return []int64{impl.SymbolCount(f, 1), impl.SymbolCount(f, math.MinInt64)} },
	})
}

// Nothing is kept from one reading to the next.
func TestReadingsUnshared(t *testing.T) {
	for _, tr := range someTrees() {
		text, f := tr.text(), tr.list()
		for range 2 {
			parsed, _ := impl.ParseForm(text)
			read, _ := impl.ReadForm(text)
			overwrite(parsed)
			wantList(t, "ReadForm beside ParseForm", read, f)
			overwrite(read)
		}
		checkParse(t, text, f, -1)
	}
}
