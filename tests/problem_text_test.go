package tests

import (
	"math/rand"
	"strings"
	"testing"

	"loop.example/g01084/impl"
)

// wantProblemText fails the test unless the text is read as the problem, or refused if there is none.
func wantProblemText(t *testing.T, s string) bool {
	t.Helper()
	want, is := problemOfTextByHand(s)
	p, ok := impl.ParseProblem(s)
	wantProblem(t, p, ok, want, is, "reading", s)
	if !is {
		return false
	}
	if again, ok := impl.ProblemText(p); again != s || !ok {
		t.Fatalf("%q is written as %q %v", s, again, ok)
	}
	return true
}

func TestTextsOfProblems(t *testing.T) {
	for _, p := range sampleProblems() {
		want := problemTextByHand(p)
		if text, ok := impl.ProblemText(p); text != want || !ok {
			t.Fatalf("text of %v: %q %v, want %q", p, text, ok, want)
		}
		if !wantProblemText(t, want) {
			t.Fatalf("%q is no text of a problem", want)
		}
		read, ok := impl.ParseProblem(want)
		wantProblem(t, read, ok, p, true, want)
	}
}

func TestTextsOfProblemsAreWrittenOut(t *testing.T) {
	for _, c := range []struct {
		p    impl.Problem
		text string
	}{
		{impl.Problem{Labels: 1, Degree: 1}, "problem 1 1\n"},
		{impl.Problem{Labels: 8, Degree: 4, Nodes: [][]int{}, Edges: [][]int{}}, "problem 8 4\n"},
		{impl.Problem{Labels: 2, Degree: 1, Nodes: [][]int{{1}}}, "problem 2 1\nnode 1\n"},
		{impl.Problem{Labels: 3, Degree: 1, Edges: [][]int{{0, 2}}}, "problem 3 1\nedge 0 2\n"},
		{impl.Problem{Labels: 8, Degree: 4, Nodes: [][]int{{0, 0, 0, 7}, {4, 5, 6, 7}}, Edges: [][]int{{0, 1}, {7, 7}}}, "problem 8 4\nnode 0 0 0 7\nnode 4 5 6 7\nedge 0 1\nedge 7 7\n"},
		{impl.Problem{Labels: 2, Degree: 2, Nodes: [][]int{{0, 1}}, Edges: [][]int{{0, 1}}}, "problem 2 2\nnode 0 1\nedge 0 1\n"},
	} {
		if text, ok := impl.ProblemText(c.p); text != c.text || !ok {
			t.Errorf("text of %v: %q %v, want %q", c.p, text, ok, c.text)
		}
		p, ok := impl.ParseProblem(c.text)
		wantProblem(t, p, ok, c.p, true, c.text)
	}
}

// The lines of a problem in which each line but the first may be left out.
var problemLines = []string{"problem 3 2", "node 0 0", "node 0 1", "node 1 2", "edge 0 1", "edge 0 2", "edge 2 2"}

// problemLinesWith returns the text with other lines in the place of one.
func problemLinesWith(k int, lines ...string) string {
	text := ""
	for j, line := range problemLines {
		if j != k {
			text += line + "\n"
			continue
		}
		for _, other := range lines {
			text += other + "\n"
		}
	}
	return text
}

// TestLinesThatAreNoProblems puts wrong lines in the place of right ones, exchanges lines, and leaves them out or has them twice.
func TestLinesThatAreNoProblems(t *testing.T) {
	for k, list := range [][]string{
		{"", "problem", "problem ", "problem 3", "problem 2", "problem 3 ", "problem 3 2 ", "problem 3  2", "problem  3 2", " problem 3 2", "problem 3 2 1", "problem 3 2 0 0", "problem 2 2", "problem 0 2", "problem 9 2", "problem 10 2", "problem -3 2", "problem +3 2", "problem 03 2", "problem 3 02", "problem 3 1", "problem 3 3", "problem 3 0", "problem 3 5", "problem 3 -2", "problem x 2", "problem 3 x", "problem 2 3", "Problem 3 2", "problems 3 2", "problem3 2", "problem 3,2", "problem\t3 2", "problem 3 2\r", "problem 3 2\n", "problem 3 9223372036854775808", "node 3 2", "edge 3 2", "3 2"},
		{"", "node", "node ", "node 0", "node 0 ", "node 0 0 ", "node 0 0 0", "node 0  0", "node  0 0", " node 0 0", "node 0 3", "node 0 -1", "node -1 0", "node +0 0", "node 00 0", "node 0 00", "node 0 x", "node 0 1", "node 1 0", "node 1 2", "node 2 2", "nodes 0 0", "Node 0 0", "node0 0", "node\t0 0", "node 0,0", "edge 0 0", "0 0", "node 0 0\r", "node 0 0\n", "node 0 9223372036854775808", "node 0 18446744073709551616", "node 0 0 0 0 0", "problem 3 2"},
		{"", "node", "node 1 0", "node 0 0", "node 1 2", "node 2 2", "node 1 3", "node 2 1", "edge 0 1"},
		{"", "node", "node 2 1", "node 0 0", "node 0 1", "node 1 3", "node 3 3", "edge 0 0\nnode 1 2"},
		{"", "edge", "edge ", "edge 0", "edge 0 1 ", "edge 0 1 1", "edge 0  1", "edge  0 1", " edge 0 1", "edge 1 0", "edge 0 2", "edge 1 2\nedge 0 1", "edge 0 -1", "edge 0 3", "edge 2 2", "edge 00 1", "edge 0 01", "edge 0 x", "edges 0 1", "Edge 0 1", "edge\t0 1", "edge 0,1", "node 0 1", "edge 0 1\r", "edge 0 1\n", "edge 0 1\nnode 2 2", "edge 0 1\nproblem 3 2"},
		{"", "edge 2 0", "edge 0 1", "edge 0 0", "edge 2 2", "node 2 2"},
		{"", "edge 0 2", "edge 0 0", "edge 2 3", "edge 3 3", "edge 2 2\nedge 2 2", "edge 2 2\nnode 2 2", "edge 2 2\nx", "edge 2 2\n "},
	} {
		if !wantProblemText(t, problemLinesWith(k, problemLines[k])) {
			t.Fatal("no problem", problemLines)
		}
		for _, line := range list {
			if text := problemLinesWith(k, line); wantProblemText(t, text) {
				t.Errorf("%q is taken for a problem", text)
			}
		}
		if text := problemLinesWith(k); wantProblemText(t, text) != (k > 0) {
			t.Errorf("without the line %d: %q", k, text)
		}
		if text := problemLinesWith(k, problemLines[k], problemLines[k]); wantProblemText(t, text) {
			t.Errorf("with the line %d twice: %q", k, text)
		}
		if k > 0 {
			text := problemLinesWith(k, problemLines[k-1])
			text = strings.Replace(text, problemLines[k-1], problemLines[k], 1)
			if wantProblemText(t, text) {
				t.Errorf("with the line %d first: %q", k, text)
			}
		}
	}
}

func TestTextsThatAreNoProblems(t *testing.T) {
	text := problemLinesWith(0, problemLines[0])
	for _, s := range []string{
		"", "\n", " ", "problem", "problem\n", "problem 1 1", "problem 1 1 \n", "problem 0 1\n", "problem 1 0\n", "problem 0 0\n", "node 0\n", "edge 0 0\n", "node 0\nedge 0 0\n", "problem 1 1\nedge 0 0\nnode 0\n", "node 0\nproblem 1 1\n", "edge 0 0\nproblem 1 1\n", "problem 1 1\nproblem 1 1\n", "problem 2 2\nproblem 1 1\n", "problem 1 1\nnode\n", "problem 1 1\nnode 0\nedge 0\n", "problem 1 1\nedge\n", "0\n", "1 1\n", "problem 1 1\n\n", "\nproblem 1 1\n",
		text + "\n", "\n" + text, text + text, text + "x", text + " ", " " + text, text + "\x00", "\xff" + text, "\ufeff" + text,
		strings.TrimSuffix(text, "\n"), strings.ReplaceAll(text, "\n", "\r\n"), strings.ReplaceAll(text, "\n", "\n\n"), strings.ReplaceAll(text, "\n", " \n"), strings.ReplaceAll(text, "\n", "\n "), strings.ReplaceAll(text, "\n", " "), strings.ReplaceAll(text, "\n", ""), strings.ReplaceAll(text, " ", "  "), strings.ReplaceAll(text, " ", ""), strings.ReplaceAll(text, " ", "\t"), strings.ReplaceAll(text, " ", ","), strings.ToUpper(text), strings.ReplaceAll(text, "0", "00"), strings.ReplaceAll(text, "1", "+1"), strings.ReplaceAll(text, "2", "\uff12"),
	} {
		if wantProblemText(t, s) {
			t.Errorf("%q is taken for a problem", s)
		}
	}
	if !wantProblemText(t, "problem 1 1\n") {
		t.Error("the smallest problem is refused")
	}
}

// TestProblemLinesInAnyOrder puts the lines of a problem in all orders, all of them or all but one.
func TestProblemLinesInAnyOrder(t *testing.T) {
	count, fewer := 0, 0
	lines := []string{"problem 2 1\n", "node 0\n", "node 1\n", "edge 0 0\n", "edge 0 1\n", "edge 1 1\n"}
	for _, perm := range permutationsOf(len(lines)) {
		text := ""
		for _, k := range perm {
			text += lines[k]
		}
		if wantProblemText(t, text) {
			count++
		}
		if wantProblemText(t, strings.TrimSuffix(text, lines[perm[5]])) {
			fewer++
		}
	}
	if count != 1 || fewer != 5 {
		t.Errorf("%d and %d orders of the lines are a problem, want 1 and 5", count, fewer)
	}
}

// TestShortTextsOfProblems puts words together in all ways.
func TestShortTextsOfProblems(t *testing.T) {
	count := 0
	words := []string{"problem", "node", "edge", " 0", " 1", " 2", " ", "\n"}
	allLists(6, rising(len(words)), func(l []int) {
		text := "problem 2 1\n"
		for _, k := range l {
			text += words[k]
		}
		if wantProblemText(t, text) {
			count++
		}
	})
	// A node configuration has three words and an edge configuration four, so that only both nodes have six.
	if count != 1 {
		t.Errorf("%d problems, want 1", count)
	}
}

func TestDisturbedTextsOfProblems(t *testing.T) {
	r := rand.New(rand.NewSource(153))
	counts := map[bool]int{}
	for k := range 8000 {
		p := randomProblem(r, 1+k%4, 1+r.Intn(4))
		text := problemTextByHand(p)
		for range 1 + k%2 {
			if text = disturbedLines(r, text, "0011223344567 \n\n\t\r\x00-+nodeg"); text == "" {
				break
			}
		}
		counts[wantProblemText(t, text)]++
	}
	if counts[true] < 500 || counts[false] < 500 {
		t.Error("texts that are problems or not:", counts)
	}
}

func TestAnyBytesAreNoProblem(t *testing.T) {
	r := rand.New(rand.NewSource(154))
	for range 3000 {
		s := make([]byte, r.Intn(30))
		for i := range s {
			s[i] = byte(r.Intn(256))
		}
		wantProblemText(t, string(s))
		wantProblemText(t, "problem 2 2\n"+string(s))
		wantProblemText(t, "problem 2 2\nnode "+string(s)+"\n")
	}
}

// TestLongTextsOfProblems has texts with far more lines, words and digits than a problem can have.
func TestLongTextsOfProblems(t *testing.T) {
	whole := wholeProblem(8, 4)
	text := problemTextByHand(whole)
	if !wantProblemText(t, text) || len(whole.Nodes) != 330 || len(whole.Edges) != 36 {
		t.Fatalf("the greatest problem with %d and %d configurations is refused", len(whole.Nodes), len(whole.Edges))
	}
	for _, s := range []string{
		strings.Repeat(text, 100), text + strings.Repeat("edge 7 7\n", 10000), strings.Repeat("problem 8 4\n", 10000), "problem 8 4\n" + strings.Repeat("node 0 0 0 0\n", 10000), "problem" + strings.Repeat(" 1", 10000) + "\n", "problem 8 4\nnode" + strings.Repeat(" 0", 10000) + "\n", "problem " + strings.Repeat("9", 10000) + " 1\n", "problem 1 1\nnode " + strings.Repeat("0", 10000) + "\n", strings.Repeat(" ", 10000), strings.Repeat("\n", 10000), strings.Repeat("node ", 10000), "problem 1 1\n" + strings.Repeat("\n", 10000),
	} {
		if wantProblemText(t, s) {
			t.Errorf("%.100q is taken for a problem", s)
		}
	}
}
