package tests

import (
	"fmt"
	"regexp"
	"strings"
	"testing"

	"loop.example/g00872/impl"
)

// linkLayouts are the lines of links, from which the tests make texts, so that expected values do not depend on the program.
var linkLayouts = map[int64]string{ax: "ax A B", cut: "cut A B", tensor: "tensor A B C", par: "par A B C"}

// linkFields are the names of the wires of a link in the order of its line.
var linkFields = []string{"A", "B", "C"}

// linkField returns the field with a name.
func linkField(l *impl.Link, name string) *int64 {
	return map[string]*int64{"A": &l.A, "B": &l.B, "C": &l.C}[name]
}

// hasWire reports whether the line of a kind contains a field.
func hasWire(kind int64, name string) bool {
	return strings.Contains(linkLayouts[kind], name)
}

// filledLine is the line of a kind with certain wires, in which the field with a name is value.
func filledLine(kind int64, name, value string) string {
	values := map[string]string{"A": "1", "B": "2", "C": "3"}
	values[name] = value
	return strings.NewReplacer("A", values["A"], "B", values["B"], "C", values["C"]).Replace(linkLayouts[kind])
}

// wantLinkText is LinkText as the tests see it.
func wantLinkText(l impl.Link) string {
	if linkLayouts[l.Kind] == "" || min(l.A, l.B, l.C) < 0 || max(l.A, l.B, l.C) > 47 || l.C != 0 && !hasWire(l.Kind, "C") {
		return ""
	}
	return plainLine(l)
}

// plainLine is the line of a link of one of the four kinds with any wires.
func plainLine(l impl.Link) string {
	return strings.NewReplacer("A", fmt.Sprint(l.A), "B", fmt.Sprint(l.B), "C", fmt.Sprint(l.C)).Replace(linkLayouts[l.Kind])
}

// wirePattern matches a number of a wire that a net can have.
const wirePattern = `(?:0|[1-9]|[123][0-9]|4[0-7])`

var linkPattern = regexp.MustCompile(`\A(ax|cut|tensor|par)((?: ` + wirePattern + `)+)\z`)

var netPattern = regexp.MustCompile(`\A((?:wire [^ \n]+\n)*)((?:(?:ax|cut|tensor|par) [^\n]+\n)*)concl((?: ` + wirePattern + `)*)\n\z`)

// numbersOf returns the numbers in a text.
func numbersOf(text string) []int64 {
	var out []int64
	for word := range strings.FieldsSeq(text) {
		var number int64
		fmt.Sscan(word, &number)
		out = append(out, number)
	}
	return out
}

// wantReadLink is ReadLink as the tests see it.
func wantReadLink(text string) (impl.Link, bool) {
	match := linkPattern.FindStringSubmatch(text)
	if match == nil {
		return impl.Link{}, false
	}
	l, numbers := impl.Link{Kind: linkWords[match[1]]}, numbersOf(match[2])
	names := strings.Fields(linkLayouts[l.Kind])[1:]
	if len(names) != len(numbers) {
		return impl.Link{}, false
	}
	for at, name := range names {
		*linkField(&l, name) = numbers[at]
	}
	return l, true
}

// plainNetText is the text of a net with formulas on its wires and links of the four kinds, valid or not.
func plainNetText(n impl.Net) string {
	out := ""
	for _, f := range n.Wires {
		out += "wire " + treeOf(f).text() + "\n"
	}
	for _, l := range n.Links {
		out += plainLine(l) + "\n"
	}
	out += "concl"
	for _, wire := range n.Concl {
		out += fmt.Sprint(" ", wire)
	}
	return out + "\n"
}

// hasPlainText reports whether there is a plainNetText of a net.
func hasPlainText(n impl.Net) bool {
	for _, f := range n.Wires {
		if !isForm(f) {
			return false
		}
	}
	for _, l := range n.Links {
		if linkLayouts[l.Kind] == "" || l.C != 0 && !hasWire(l.Kind, "C") {
			return false
		}
	}
	return true
}

// wantNetText is NetText as the tests see it.
func wantNetText(n impl.Net) string {
	if !isNet(n) {
		return ""
	}
	return plainNetText(n)
}

// wantReadNet is ReadNet as the tests see it.
func wantReadNet(text string) (impl.Net, bool) {
	match := netPattern.FindStringSubmatch(text)
	if match == nil || len(text) > 4000 {
		return impl.Net{}, false
	}
	var n impl.Net
	for line := range strings.FieldsFuncSeq(match[1], func(r rune) bool { return r == '\n' }) {
		f := strings.TrimPrefix(line, "wire ")
		if firstMisfit(f) >= 0 || meaningOf(f).text() != f {
			return impl.Net{}, false
		}
		n.Wires = append(n.Wires, meaningOf(f).list())
	}
	for line := range strings.FieldsFuncSeq(match[2], func(r rune) bool { return r == '\n' }) {
		l, ok := wantReadLink(line)
		if !ok {
			return impl.Net{}, false
		}
		n.Links = append(n.Links, l)
	}
	n.Concl = numbersOf(match[3])
	if !isNet(n) {
		return impl.Net{}, false
	}
	return n, true
}

// wantTree is TreeText of a wire of a valid net as the tests see it.
func wantTree(n impl.Net, wire int64) string {
	k := wantEnd(n, wire, 'o')
	switch l := n.Links[k]; {
	case l.Kind == ax && l.A == wire:
		return fmt.Sprintf("a%d", k)
	case l.Kind == ax:
		return fmt.Sprintf("b%d", k)
	default:
		return "(" + wantTree(n, l.A) + operatorSigns[linkSymbols[l.Kind]] + wantTree(n, l.B) + ")"
	}
}

// wantNetOutline is NetOutline as the tests see it.
func wantNetOutline(n impl.Net) string {
	if !isNet(n) {
		return ""
	}
	out := ""
	for _, wire := range n.Concl {
		out += fmt.Sprintf("concl %s\n", wantTree(n, wire))
	}
	for _, l := range n.Links {
		if l.Kind == cut {
			out += fmt.Sprintf("cut %s %s\n", wantTree(n, l.A), wantTree(n, l.B))
		}
	}
	return out
}

// wantKindCounts is KindCounts as the tests see it.
func wantKindCounts(n impl.Net) []int64 {
	if !isNet(n) {
		return nil
	}
	var out []int64
	for _, kind := range allKinds {
		out = append(out, int64(len(wantLinksOf(n, kind))))
	}
	return out
}

// checkReadLink compares what ReadLink returns with a link.
func checkReadLink(t *testing.T, text string, want impl.Link, wantOk bool) {
	t.Helper()
	if got, ok := impl.ReadLink(text); ok != wantOk || got != want {
		t.Fatalf("ReadLink(%q) = %+v, %v, want %+v, %v", text, got, ok, want, wantOk)
	}
}

// checkLink compares LinkText and ReadLink with the expectation, and reports whether the link has a line.
func checkLink(t *testing.T, l impl.Link) bool {
	t.Helper()
	text := wantLinkText(l)
	if got := impl.LinkText(l); got != text {
		t.Fatalf("LinkText(%+v) = %q, want %q", l, got, text)
	}
	if text != "" {
		checkReadLink(t, text, l, true)
	}
	return text != ""
}

// checkLine compares what ReadLink returns for any text with the expectation, and reports whether it is the line of a link.
func checkLine(t *testing.T, text string) bool {
	t.Helper()
	want, wantOk := wantReadLink(text)
	checkReadLink(t, text, want, wantOk)
	if wantOk {
		checkLink(t, want)
	}
	return wantOk
}

// checkNoLines checks that texts are the line of no link, for ReadLink and as a line among others for ReadNet.
func checkNoLines(t *testing.T, texts ...string) {
	t.Helper()
	for _, text := range texts {
		if checkLine(t, text) {
			t.Fatalf("%q is the line of a link", text)
		}
		checkNoNetTexts(t, "wire A\nwire ~A\n"+text+"\nconcl 0 1\n", "wire A\nwire ~A\nax 0 1\n"+text+"\nconcl\n", text)
	}
}

// checkReadNet compares what ReadNet returns with a net.
func checkReadNet(t *testing.T, text string, want impl.Net, wantOk bool) {
	t.Helper()
	if got, ok := impl.ReadNet(text); ok != wantOk || !sameNet(got, want) {
		t.Fatalf("ReadNet(%q) = %v, want %v, with%s\ninstead of%s", text, ok, wantOk, describeNet(got), describeNet(want))
	}
}

// checkAnyNetText compares what ReadNet returns for any text with the expectation, and reports whether it is the text of a net.
func checkAnyNetText(t *testing.T, text string) bool {
	t.Helper()
	want, wantOk := wantReadNet(text)
	checkReadNet(t, text, want, wantOk)
	if wantOk && impl.NetText(want) != text {
		t.Fatalf("NetText = %q, want %q", impl.NetText(want), text)
	}
	return wantOk
}

// checkNoNetTexts checks that texts are of no valid net.
func checkNoNetTexts(t *testing.T, texts ...string) {
	t.Helper()
	for _, text := range texts {
		if _, ok := wantReadNet(text); ok {
			t.Fatalf("%q is the text of a net", text)
		}
		checkReadNet(t, text, impl.Net{}, false)
	}
}

// checkTrees compares TreeText, NetOutline and KindCounts with the expectation.
func checkTrees(t *testing.T, n impl.Net) {
	t.Helper()
	valid := isNet(n)
	for _, wire := range append(inOrder(min(len(n.Wires), 49)+2), oddNumbers...) {
		want := ""
		if valid && wire >= 0 && wire < int64(len(n.Wires)) {
			want = wantTree(n, wire)
		}
		if got := impl.TreeText(n, wire); got != want {
			t.Fatalf("TreeText(%d) = %q, want %q of%s", wire, got, want, describeNet(n))
		}
	}
	if got, want := impl.NetOutline(n), wantNetOutline(n); got != want {
		t.Fatalf("NetOutline = %q, want %q of%s", got, want, describeNet(n))
	}
	wantList(t, "KindCounts of"+describeNet(n), impl.KindCounts(n), wantKindCounts(n))
}

// checkNetTexts compares all functions of a net with the expectation, reads its text back if it has one, and reports whether it is valid.
func checkNetTexts(t *testing.T, n impl.Net) bool {
	t.Helper()
	text := wantNetText(n)
	if got := impl.NetText(n); got != text {
		t.Fatalf("NetText = %q, want %q of%s", got, text, describeNet(n))
	}
	switch {
	case text != "":
		checkReadNet(t, text, n, true)
	case hasPlainText(n):
		checkReadNet(t, plainNetText(n), impl.Net{}, false)
	}
	checkTrees(t, n)
	return text != ""
}
