package tests

import (
	"math/rand"
	"slices"
	"strings"
	"testing"

	"loop.example/g01084/impl"
)

// wantMachine fails the test unless the text is read as the machine, or refused if there is none.
func wantMachine(t *testing.T, text string) bool {
	t.Helper()
	want, is := machineByHand(text)
	m, ok := impl.ParseMachine(text)
	if ok != is || !same(m, want) {
		t.Fatalf("reading %q: got %v %v, want %v %v", text, m, ok, want, is)
	}
	if !ok {
		refused(t, text, m, ok)
		return false
	}
	if again, ok := impl.MachineText(m); again != text || !ok {
		t.Fatalf("%q is written as %q %v", text, again, ok)
	}
	return true
}

func TestTextsOfMachines(t *testing.T) {
	machines := wellKnownMachines(t)
	r := rand.New(rand.NewSource(100))
	for k := range 1500 {
		m := randomMachine(r, k%7, 1+r.Intn(10))
		m.Clauses = m.Clauses[:min(len(m.Clauses), k%61)]
		machines = append(machines, m)
	}
	for _, m := range machines {
		want := machineTextByHand(m)
		if text, ok := impl.MachineText(m); text != want || !ok {
			t.Fatalf("text of %v: %q %v, want %q", m, text, ok, want)
		}
		if got, ok := impl.ParseMachine(want); !ok || !same(got, m) || !impl.IsMachine(got) {
			t.Fatalf("machine of %q: %v %v, want %v", want, got, ok, m)
		}
		wantMachine(t, want)
	}
}

func TestTextsOfMachinesAreWrittenOut(t *testing.T) {
	full := impl.Machine{Degree: 2, States: 3, Messages: 2, Start: [][]int{{0, 2}, {1, 1}, {2, 0}}, Send: [][]int{{0, 1}, {1, 1}, {0, 0}}, Output: []int{9, -1, 0}}
	full.Clauses = []impl.Clause{{State: 2, Inbox: []int{-1, -1}, Next: 0}, {State: 1, Next: 2}, {State: 0, Inbox: []int{1}, Next: 1}, {State: 1, Inbox: []int{0, -1}, Next: 1}}
	single := smallest()
	silent := smallest()
	silent.Output[0] = 9
	silent.Clauses = []impl.Clause{{}, {}}
	for _, c := range []struct {
		m    impl.Machine
		text string
	}{
		{full, "machine 2 3 2 2\nstart 0 2\nstart 1 1\nstart 2 0\nsend 0 1\nsend 1 1\nsend 0 0\nwhen 2 * * then 0\nwhen 1 then 2\nwhen 0 1 then 1\nwhen 1 0 * then 1\ngive 0 9\ngive 2 0\n"},
		{single, "machine 0 1 1 1\nstart 0\nsend\n"},
		{silent, "machine 0 1 1 1\nstart 0\nsend\nwhen 0 then 0\nwhen 0 then 0\ngive 0 9\n"},
		{counting(t), "machine 2 12 1 1\nstart 7\nstart 0\nstart 4\n" + strings.Repeat("send 0 0\n", 12) + "when 0 * then 1\nwhen 1 0 then 2\nwhen 2 * then 3\nwhen 3 0 then 0\nwhen 4 * * then 5\nwhen 5 0 * then 6\nwhen 6 0 0 then 4\nwhen 7 then 8\nwhen 8 then 9\nwhen 9 then 10\nwhen 10 then 11\ngive 11 9\n"},
	} {
		if text, ok := impl.MachineText(c.m); text != c.text || !ok {
			t.Errorf("text of %v: %q %v, want %q", c.m, text, ok, c.text)
		}
		if m, ok := impl.ParseMachine(c.text); !same(m, c.m) || !ok {
			t.Errorf("machine of %q: %v %v, want %v", c.text, m, ok, c.m)
		}
	}
}

// machineLines are the lines of a machine with every kind of line twice.
var machineLines = []string{"machine 1 2 2 2", "start 0 1", "start 1 0", "send 0", "send 1", "when 0 * then 1", "when 1 then 0", "give 0 3", "give 1 4"}

// machineLinesWith returns the text with some lines instead of one.
func machineLinesWith(k int, lines ...string) string {
	return strings.Join(slices.Concat(machineLines[:k], lines, machineLines[k+1:]), "\n") + "\n"
}

// TestLinesThatAreNoMachines puts wrong lines in the place of right ones.
func TestLinesThatAreNoMachines(t *testing.T) {
	for k, list := range [][]string{
		{"", "machine", "machines 1 2 2 2", "Machine 1 2 2 2", "machine 1 2 2", "machine 1 2 2 2 0", "machine 1 2 2 2 2", "machine 1 2 2 1", "machine 1 2 2 3", "machine 1 2 2 0", "machine 1 2 2 *", "machine 1 2 1 2", "machine 1 2 0 2", "machine 1 2 7 2", "machine 1 2 * 2", "machine 1 3 2 2", "machine 1 1 2 2", "machine 1 0 2 2", "machine 1 * 2 2", "machine 1 -1 2 2", "machine 1 13 2 2", "machine 1 999999 2 2", "machine 1 9223372036854775808 2 2", "machine 0 2 2 2", "machine 2 2 2 2", "machine 7 2 2 2", "machine * 2 2 2", "machine -1 2 2 2", "machine 01 2 2 2", "machine  1 2 2 2", "machine 1 2 2 2 ", " machine 1 2 2 2"},
		{"", "start", "start ", "start 0", "start 0 1 1", "start 0 2", "start 0 *", "start 0 -1", "start 0 +1", "start 0 x", "start 0 01", "start 00 1", "start 0  1", "start  0 1", "start 0 1 ", " start 0 1", "start\t0 1", "start0 1", "START 0 1", "begin 0 1", "send 0 1", "send 0", "start 0 1\r", "start 0 1\n"},
		{"", "start 1", "start 1 2", "start 1 0 0", "start * 0"},
		{"", "send", "send ", "send 0 0", "send 2", "send *", "send -1", "send 00", "send  0", "send 0 ", " send 0", "sent 0", "start 0", "start 0 0"},
		{"", "send", "send 1 1", "send 2"},
		{"", "when", "when ", "when then", "when then 1", "when  then 1", "then 1", "when 0 *", "when 0 * 1", "when 0 * then", "when 0 * then ", "when 0 * 1 then", "when 0 then * 1", "when then 0 * 1", "when 0 * then 1 1", "when 0 * then then 1", "when 0 * then 1 then 1", "when 0 * 0 then 1", "when 0 * then 2", "when 0 * then *", "when 0 * then -1", "when 0 * then x", "when 2 * then 1", "when * * then 1", "when * then 1", "when -1 * then 1", "when 0 2 then 1", "when 0 -1 then 1", "when 0 ** then 1", "when 0 x then 1", "when 00 * then 1", "when 0 * then 01", "when 0 * than 1", "whenever 0 * then 1", "when  0 * then 1", "when 0  * then 1", "when 0 *  then 1", "when 0 * then  1", "when 0 * then 1 ", " when 0 * then 1", "give 0 0"},
		{"", "when 1 then 2", "when 1 0 0 then 0"},
		{"", "give", "give ", "give 0", "give 0 3 3", "give 0 10", "give 0 -1", "give 0 *", "give * 3", "give -1 3", "give 2 3", "give 999999 3", "give 0 x", "give 0 03", "give 00 3", "give 1 3", "give 1 4", "give 0  3", "give  0 3", "give 0 3 ", " give 0 3", "given 0 3", "give 0 3\ngive 0 3", "give 0 2\ngive 0 3", "stop"},
		{"", "give 1", "give 1 10", "give 0 4", "give 2 4", "give 1 4\ngive 2 0", "give 1 4\ngive 1 4", "give 1 4\nsend 0", "give 1 4\nstart 0 1", "give 1 4\nwhen 1 then 0", "give 1 4\nmachine 1 2 2 2", "give 1 4\nx"},
	} {
		if !wantMachine(t, machineLinesWith(k, machineLines[k])) {
			t.Fatal("no machine", machineLines)
		}
		for _, line := range list {
			if text := machineLinesWith(k, line); wantMachine(t, text) {
				t.Errorf("%q is taken for a machine", text)
			}
		}
		if text := machineLinesWith(k); wantMachine(t, text) != (k >= 5) {
			t.Errorf("without the line %d: %q", k, text)
		}
		if text := machineLinesWith(k, machineLines[k], machineLines[k]); wantMachine(t, text) != (k == 5 || k == 6) {
			t.Errorf("with the line %d twice: %q", k, text)
		}
		if k > 0 {
			text := machineLinesWith(k, machineLines[k-1])
			text = strings.Replace(text, machineLines[k-1], machineLines[k], 1)
			if wantMachine(t, text) != (k == 2 || k == 4 || k == 6) {
				t.Errorf("with the line %d first: %q", k, text)
			}
		}
	}
}

func TestTextsThatAreNoMachines(t *testing.T) {
	text := machineLinesWith(0, machineLines[0])
	for _, s := range []string{
		"", "\n", " ", "machine", "machine\n", "machine 0 1 1 1\n", "start 0\n", "send\n", "when 0 then 0\n", "give 0 0\n", "machine 0 1 1 1\nstart 0\n", "machine 0 1 1 1\nsend\nstart 0\n", "machine 0 1 1 1\nstart 0\nsend",
		"give 0 0\n" + text, text + "\n", "\n" + text, text + text, text + "x", text + " ", " " + text, text + "\x00", "\xff" + text,
		strings.TrimSuffix(text, "\n"), strings.ReplaceAll(text, "\n", "\r\n"), strings.ReplaceAll(text, "\n", "\n\n"), strings.ReplaceAll(text, "\n", " \n"), strings.ReplaceAll(text, "\n", " "), strings.ReplaceAll(text, " ", "  "), strings.ReplaceAll(text, " ", ""), strings.ReplaceAll(text, " ", "\t"), strings.ToUpper(text),
		strings.ReplaceAll(strings.ReplaceAll(text, "start 0 1", "start"), "start 1 0", "start"),
	} {
		if wantMachine(t, s) {
			t.Errorf("%q is taken for a machine", s)
		}
	}
	if !wantMachine(t, "machine 0 1 1 1\nstart 0\nsend\n") {
		t.Error("the smallest machine is refused")
	}
}

// TestLinesInAnyOrder puts the lines of small machines in all orders.
func TestLinesInAnyOrder(t *testing.T) {
	count := 0
	lines := []string{"machine 1 1 2 1\n", "start 0\n", "start 0\n", "send 1\n", "when 0 * then 0\n", "give 0 0\n"}
	for _, perm := range permutationsOf(len(lines)) {
		text := ""
		for _, k := range perm {
			text += lines[k]
		}
		if wantMachine(t, text) {
			count++
		}
		wantMachine(t, strings.TrimPrefix(text, lines[perm[0]]))
	}
	// The two equal lines are there in both orders.
	if count != 2 {
		t.Errorf("%d orders of the lines are a machine, want 2", count)
	}
}

// TestShortTextsOfMachines puts words together in all ways.
func TestShortTextsOfMachines(t *testing.T) {
	count := 0
	allLists(5, []int{0, 1, 2, 3, 4, 5, 6, 7}, func(l []int) {
		text := "machine 0 1 1 1\n"
		for _, k := range l {
			text += []string{"start 0", "send", "\n", "when", " 0", " *", " then", "give 0 0"}[k]
		}
		if wantMachine(t, text+"\n") {
			count++
		}
		wantMachine(t, text)
	})
	// The state at the start, the messages and the output, and two line feeds between them.
	if count != 1 {
		t.Errorf("%d machines, want 1", count)
	}
}

func TestDisturbedTextsOfMachines(t *testing.T) {
	r := rand.New(rand.NewSource(101))
	counts := map[bool]int{}
	for k := range 6000 {
		m := randomMachine(r, r.Intn(7), 1+r.Intn(3))
		m.Clauses = m.Clauses[:min(len(m.Clauses), k%8)]
		text := machineTextByHand(m)
		for range 1 + k%2 {
			text = disturbedLines(r, text, "0123456789** \n\n\t\r\x00-+then")
		}
		counts[wantMachine(t, text)]++
	}
	if counts[true] < 100 || counts[false] < 100 {
		t.Error("texts that are machines or not:", counts)
	}
}

// TestLongTextsOfMachines has texts with far more lines, words and digits than a machine can have.
func TestLongTextsOfMachines(t *testing.T) {
	text, ok := impl.MachineText(greatest())
	if !ok || !wantMachine(t, text) {
		t.Fatal("the greatest machine", text, ok)
	}
	for _, s := range []string{
		text + text[strings.Index(text, "when"):strings.Index(text, "give")],
		strings.Replace(text, "give", "when 0 then 0\ngive", 1),
		strings.Repeat(text, 100),
		strings.Repeat("start 0\n", 10000),
		strings.Repeat("machine 6 12 6 10\n", 10000),
		"machine 6 12 6 10\n" + strings.Repeat("give 0 0\n", 10000),
		"machine" + strings.Repeat(" 1", 10000),
		"start" + strings.Repeat(" 0", 10000) + "\n",
		"machine " + strings.Repeat("9", 10000) + " 1 1 1\n",
		strings.Repeat(" ", 10000), strings.Repeat("\n", 10000), strings.Repeat("when ", 10000),
	} {
		if wantMachine(t, s) {
			t.Errorf("%.100q is taken for a machine", s)
		}
	}
}

// TestEachNumberInATextCounts changes each number of a text and finds the change in the machine.
func TestEachNumberInATextCounts(t *testing.T) {
	for _, m := range wellKnownMachines(t) {
		text := machineTextByHand(m)
		for _, span := range machineNumberForm.FindAllStringIndex(text, -1) {
			for _, word := range []string{"0", "1", "6", "9", "12", "*"} {
				changed := text[:span[0]] + word + text[span[1]:]
				is := wantMachine(t, changed)
				if got, _ := impl.ParseMachine(changed); is && same(got, m) != (changed == text) {
					t.Fatalf("%q is read as %v, and so is %q", changed, got, text)
				}
			}
		}
	}
}
